/- The texts of labels: both LabelsTexts. -/
import Derived.Test.YtooackaijhpohaaGreatDoorQu
import Derived.Test.YtooackaijhpohaaGreatDoorVo
namespace Go.Proofs.YtooackaijhpohaaGreatDoor.Lab
open Go.RowKit Go.Proofs.YtooackaijhpohaaGreatDoor.Str

theorem info9 : (Tryz.prog.info? 9).map (fun i => (i.zero, i.size, i.bytes)) = some (some (.string ByteArray.empty), 1, 16) := by kernel_rfl
theorem own_form {w : World} {base e size n : Nat} {v : Value} {xs : List Value} (h : w.ownsRow base e size v n xs) : ∃ a c, v = .slice a n c := by
  rcases h.2 with ⟨h1, h2⟩ | ⟨g, cap, cur, h1, _⟩
  · subst h2; exact ⟨none, 0, h1⟩
  · exact ⟨_, _, h1⟩
abbrev mkS (l : List UInt8) : ByteArray := ⟨l.toArray⟩
def labT (p : Lb) : List UInt8 := p.1.data.toList ++ [61] ++ quoB p.2.data.toList
def bodyT (ls : List Lb) : List UInt8 := Lib.join (ls.map labT) [44]
def txtL (ls : List Lb) : List UInt8 := [123] ++ bodyT ls ++ [125]

theorem mkS_app (a b : List UInt8) : mkS a ++ mkS b = mkS (a ++ b) := by
  apply ByteArray.ext; simp
theorem mkS_self (s : ByteArray) : mkS s.data.toList = s := by apply ByteArray.ext; simp
theorem lab_str (p : Lb) : p.1 ++ (⟨#[61]⟩ : ByteArray) ++ mkS (quoB p.2.data.toList) = mkS (labT p) := by
  apply ByteArray.ext; simp [mkS, labT]

/-- A label in its box. -/
abbrev S1 (w : World) (p : Lb) (w' : World) : Prop :=
  w'.cell? ⟨w.heap.size, 0, none⟩ = some (.string p.1) ∧ w'.cell? ⟨w.heap.size, 1, none⟩ = some (.string p.2) ∧ Below w.heap.size w w'
theorem S1.below {w W W' : World} {p : Lb} (h : S1 w p W) (hb : Below W.heap.size W W') : S1 w p W' := by
  obtain ⟨h1, h2, h5⟩ := h
  have l := World.block_lt_of_cell? W _ h2
  exact ⟨(hb.cell (p := ⟨w.heap.size, 0, none⟩) l).trans h1, (hb.cell (p := ⟨w.heap.size, 1, none⟩) l).trans h2, h5.trans (hb.mono h5.size)⟩
theorem S1.alloc {w W : World} {p : Lb} (h : S1 w p W) (o : Obj) : S1 w p (W.alloc o) := h.below ((Below.refl _ _).alloc (Nat.le_refl _) o)
theorem S1.drew {w W : World} {p : Lb} (h : S1 w p W) : S1 w p W.drew := ⟨h.1, h.2.1, h.2.2.drew⟩
theorem S1.new (w : World) (p : Lb) : S1 w p (w.alloc (.cells #[.string p.1, .string p.2] 67)) := by
  have A1 := heap_alloc_new w (.cells #[.string p.1, .string p.2] 67)
  exact ⟨two0 A1, two1 A1, (Below.refl w.heap.size w).alloc (Nat.le_refl _) _⟩

theorem quoB_len (l : List UInt8) : (quoB l).length ≤ 2 * l.length + 2 := by
  have := quoP_len l
  unfold quoB; simp; omega
theorem mkS_size (l : List UInt8) : (mkS l).size = l.length := by simp [ByteArray.size]
theorem add_run (a b : ByteArray) (h : a.size + b.size ≤ 9223372036854775807) : ∀ w, (Op.stringOp .add a b).run Tryz.prog w = .ok (.string (a ++ b)) w := fun w => run_string_add_sum w a b h

set_option maxHeartbeats 2000000 in
theorem f90 (p : Lb) (w : World) (hp1 : p.1.size ≤ 1048576) (hp : p.2.size ≤ 1048576) : Calls Tryz.prog 90 #[.agg #[.string p.1, .string p.2]] w fun e w' => e = .returned (.string (mkS (labT p))) ∧ Below w.heap.size w w' := by
  have HS := hid (S1.new w p)
  have HL := hid (lab_str p)
  have hq : (mkS (quoB p.2.data.toList)).size ≤ 2097154 := by
    have := quoB_len p.2.data.toList
    rw [mkS_size]; simp at this; omega
  have a1 := add_run p.1 ⟨#[61]⟩ (by have : (⟨#[61]⟩ : ByteArray).size = 1 := rfl; omega)
  have a2 := add_run (p.1 ++ ⟨#[61]⟩) (mkS (quoB p.2.data.toList)) (by
    have : (⟨#[61]⟩ : ByteArray).size = 1 := rfl
    rw [ByteArray.size_append, this]; omega)
  clear hq
  go_enter Tryz.func90, Tryz.ntmps90
  go_wp2_with fail
  go_region_held3 (fun w' => S1 w p w') (first | exact HS.out.drew | assumption | exact S1.alloc (by assumption) _) (first | (go_at_call 111; refine (f111 p.2 _ hp).mono ?_; rintro e w2 ⟨rfl, hb2⟩; have hs2 := S1.below (by assumption) hb2; clear hb2))
  go_wp2
  go_ret
  exact ⟨by rw [← HL.out]; rfl, hs2.2.2⟩
end Go.Proofs.YtooackaijhpohaaGreatDoor.Lab
namespace Go.Proofs.YtooackaijhpohaaGreatDoor.Lab
open Go.RowKit Go.Proofs.YtooackaijhpohaaGreatDoor.Str

def strs (ls : List Lb) : List ByteArray := ls.map fun p => mkS (labT p)
theorem strs_len (ls : List Lb) : (strs ls).length = ls.length := by simp [strs]
theorem strs_succ {ls : List Lb} {k : Nat} (hk : k < ls.length) : (strs (ls.take (k + 1))).map Value.string = (strs (ls.take k)).map Value.string ++ [.string (mkS (labT (ls.getD k e0)))] := by
  have e : ls.getD k e0 = ls[k] := by simp [hk]
  unfold strs
  rw [List.take_succ_eq_append_getElem hk, e, List.map_append, List.map_append]; rfl
theorem strs_join (ls : List Lb) : Lib.join ((strs ls).map (·.data.toList)) (⟨#[44]⟩ : ByteArray).data.toList = bodyT ls := by
  unfold bodyT strs
  rw [List.map_map]
  rfl
def Sml (ls : List Lb) : Prop := ls.length ≤ 20 ∧ ∀ i, i < ls.length → (ls.getD i e0).1.size ≤ 40 ∧ (ls.getD i e0).2.size ≤ 100
theorem good_sml {ls : List Lb} (h : goodL ls = true) : Sml ls := by
  obtain ⟨h1, h2⟩ := good_iff h
  refine ⟨h1, fun i hi => ?_⟩
  have := (h2 i hi).1
  unfold okL nameL valueL at this
  simp at this ⊢
  omega
theorem labT_len {p : Lb} (h1 : p.1.size ≤ 40) (h2 : p.2.size ≤ 100) : (labT p).length ≤ 243 := by
  have := quoB_len p.2.data.toList
  unfold labT
  simp at this ⊢
  omega
theorem joinTail_app (sep : List UInt8) (r : List (List UInt8)) (x : List UInt8) : Lib.joinTail sep (r ++ [x]) = Lib.joinTail sep r ++ sep ++ x := by
  simp [Lib.joinTail]
theorem joinTail_len (sep : List UInt8) (r : List (List UInt8)) (M : Nat) (h : ∀ x ∈ r, x.length ≤ M) : (Lib.joinTail sep r).length ≤ r.length * (M + sep.length) := by
  induction r with
  | nil => simp [Lib.joinTail]
  | cons x r ih =>
    have h1 := ih (fun y hy => h y (by simp [hy]))
    have h2 := h x (by simp)
    have e : Lib.joinTail sep (x :: r) = sep ++ x ++ Lib.joinTail sep r := by simp [Lib.joinTail]
    rw [e, List.length_append, List.length_append, List.length_cons, Nat.add_mul]
    omega
theorem join_len (r : List (List UInt8)) (sep : List UInt8) (M : Nat) (h : ∀ x ∈ r, x.length ≤ M) : (Lib.join r sep).length ≤ r.length * (M + sep.length) := by
  cases r with
  | nil => simp [Lib.join_nil]
  | cons x r =>
    have h1 := joinTail_len sep r M (fun y hy => h y (by simp [hy]))
    have h2 := h x (by simp)
    rw [Lib.join_cons, List.length_append, List.length_cons, Nat.add_mul]
    omega
theorem body_len {ls : List Lb} (h : Sml ls) (k : Nat) : (bodyT (ls.take k)).length ≤ 4880 := by
  have h1 := join_len ((ls.take k).map labT) [44] 243 (by
    intro x hx
    obtain ⟨p, hp, rfl⟩ := List.mem_map.1 hx
    obtain ⟨i, hi, rfl⟩ := List.getElem_of_mem (List.mem_of_mem_take hp)
    have := h.2 i hi
    have e : ls.getD i e0 = ls[i] := by simp [hi]
    rw [e] at this
    exact labT_len this.1 this.2)
  have h2 := h.1
  unfold bodyT
  have : ((ls.take k).map labT).length ≤ 20 := by simp; omega
  refine Nat.le_trans h1 (Nat.le_trans (Nat.mul_le_mul_right _ this) (by simp))
theorem body_zero (ls : List Lb) : bodyT (ls.take 0) = [] := rfl
theorem body_one {ls : List Lb} (h : 0 < ls.length) : bodyT (ls.take 1) = labT (ls.getD 0 e0) := by
  have e : ls.getD 0 e0 = ls[0] := by simp [h]
  unfold bodyT
  rw [List.take_succ_eq_append_getElem h, e]
  simp [Lib.join_one]
theorem body_succ {ls : List Lb} {k : Nat} (hk : k < ls.length) (h0 : 0 < k) : bodyT (ls.take (k + 1)) = bodyT (ls.take k) ++ [44] ++ labT (ls.getD k e0) := by
  have e : ls.getD k e0 = ls[k] := by simp [hk]
  unfold bodyT
  rw [List.take_succ_eq_append_getElem hk, e]
  cases ls with
  | nil => simp at hk
  | cons x r =>
    cases k with
    | zero => omega
    | succ k =>
      simp only [List.take_succ_cons, List.map_append, List.map_cons, List.cons_append, Lib.join_cons, List.map_nil]
      rw [joinTail_app]; simp
theorem body_all {ls : List Lb} {k : Nat} (hk : ls.length ≤ k) : bodyT (ls.take k) = bodyT ls := by rw [List.take_of_length_le hk]

theorem join_own {w : World} {B n c : Nat} {a : Option Addr} {ls : List Lb} (h : w.ownsRow B 9 1 (.slice a n c) n ((strs ls).map Value.string)) (hn : ls.length = n) (h20 : n ≤ 20) (hl : (bodyT ls).length ≤ 4880) :
    Calls Tryz.prog 110 #[.slice a n c, .string ⟨#[44]⟩] w fun e w' => e = .returned (.string (mkS (bodyT ls))) ∧ Below w.heap.size w w' := by
  rcases h.2 with ⟨h1, h2⟩ | ⟨g, cap, cur, h1, h2, h3, h4, h5⟩
  · subst h2
    have e0 : bodyT ls = [] := by rw [List.length_eq_zero_iff.1 hn]; rfl
    refine (Tryz.strings_Join_none a c ⟨#[44]⟩ w).mono ?_
    rintro e w' ⟨rfl, rfl⟩
    exact ⟨by rw [e0], Below.refl _ _⟩
  · simp only [Value.slice.injEq, true_and] at h1
    obtain ⟨rfl, rfl⟩ := h1
    have e1 : (strs ls).length = n := by rw [strs_len, hn]
    have := Tryz.strings_Join g 0 c (strs ls) ⟨#[44]⟩ w (by
      intro j x hx
      have := h.cells (g := g) rfl j (.string x) (by simp [hx])
      have e : (⟨g, 0, none⟩ : Addr).add j = ⟨g, 0 + j, none⟩ := by unfold Addr.add; split <;> simp_all
      rwa [e] at this) (lt_block h3) (by omega) (by omega) (by rw [strs_join]; omega)
    rw [e1, strs_join] at this
    exact this

set_option maxHeartbeats 2000000 in
theorem f89 (a : Option Addr) (n c : Nat) (ls : List Lb) (w : World) (hn : ls.length = n) (hr : HasL w a ls) (hs : Sml ls) :
    Calls Tryz.prog 89 #[.slice a n c, .func (.func 90) #[] #[]] w fun e w' => e = .returned (.string (mkS (txtL ls))) ∧ Below w.heap.size w w' := by
  obtain ⟨i0, hi, hz0, hz1, hz2⟩ := info_parts info9
  have h20 : n ≤ 20 := by have := hs.1; omega
  have HN := hid hn
  have HS := hid hs
  have HR := hid hr
  have HL := hid (body_len hs n)
  have hbl : (mkS (bodyT ls)).size ≤ 4880 := by
    rw [mkS_size, ← body_all (k := n) (by omega)]; exact HL.out
  have a1 := add_run ⟨#[123]⟩ (mkS (bodyT ls)) (by have : (⟨#[123]⟩ : ByteArray).size = 1 := rfl; omega)
  have a2 := add_run (⟨#[123]⟩ ++ mkS (bodyT ls)) ⟨#[125]⟩ (by
    have e1 : (⟨#[123]⟩ : ByteArray).size = 1 := rfl
    have e2 : (⟨#[125]⟩ : ByteArray).size = 1 := rfl
    rw [ByteArray.size_append]; omega)
  have HT : Hid ((⟨#[123]⟩ : ByteArray) ++ mkS (bodyT ls) ++ ⟨#[125]⟩ = mkS (txtL ls)) := by
    apply ByteArray.ext; simp [txtL]
  clear hn hs hr hbl
  go_enter Tryz.func89, Tryz.ntmps89
  go_wp2_with (at_make; refine wpList_make_own _ rfl _ _ 62 rfl w.heap.size 9 i0 (.string ByteArray.empty) 1 Tryz.underlying62 hi hz0 hz1 _ _ _ n rfl rfl rfl ?b2 ?b3 ?b4 ?_)
  case b2 => rw [hz2]; omega
  case b3 => unfold maxLen; omega
  case b4 => exact Nat.le_refl _
  intro w2 hown2 hgrow2
  have HX2 := hid ((Below.refl w.heap.size w).grown hgrow2 (Nat.le_refl _) (fun k h => by cases h))
  have HO2 := hid hown2
  clear hown2 hgrow2
  go_wp2
  go_loopw [5, 13] (fun so si wr => ∃ (k c' : Nat) (a' : Option Addr), k ≤ n ∧ si = .int .i64 k ∧ so = .slice a' k c' ∧ Hid (wr.ownsRow w.heap.size 9 1 (.slice a' k c') k ((strs (ls.take k)).map Value.string)) ∧ Hid (Below w.heap.size w wr)) (fun _ si _ => n - (intOf si).toNat)
  case atStart => exact ⟨0, n, some ⟨w.heap.size, 0, none⟩, Nat.zero_le _, rfl, rfl, by simpa [strs] using HO2, HX2⟩
  case round =>
    obtain ⟨k, c', a', hk, rfl, rfl, HO, HX⟩ := hrel
    by_cases hlt : k < n
    · rcases HR.out with hr | ⟨bb, off, rfl, hbl, hc⟩
      · exact absurd HN.out (by rw [hr]; simp; omega)
      obtain ⟨c0, c1'⟩ := hc k (by rw [HN.out]; exact hlt)
      have d0 := (HX.out.cell (p := ⟨bb, off + k * 2, none⟩) hbl).trans c0
      have d1 := (HX.out.cell (p := ⟨bb, off + k * 2 + 1, none⟩) hbl).trans c1'
      have HSU := hid (strs_succ (ls := ls) (k := k) (by rw [HN.out]; exact hlt))
      have HSZ := hid (HS.out.2 k (by rw [HN.out]; exact hlt))
      clear hc c0 c1'
      generalize ls.getD k e0 = p at *
      go_wp2_with fail
      refine (f90 p _ (by have := HSZ.out.1; omega) (by have := HSZ.out.2; omega)).mono ?_
      rintro e w3 ⟨rfl, hb3⟩
      have HX3 := hid ((HX.out.alloc HX.out.size (.cells #[.string p.1, .string p.2] 67)).trans (hb3.mono (by have := HX.out.size; simp; omega)))
      have HO3 := hid (own_below (HO.out.alloc (.cells #[.string p.1, .string p.2] 67)) hb3)
      clear hb3
      go_wp2_with (at_builtin; refine wpList_append_own _ rfl (.tmp 17) (.tmp 21) 62 rfl w.heap.size 9 i0 (.string ByteArray.empty) 1 16 Tryz.underlying62 hi hz0 hz1 hz2 rfl (by decide) _ _ _ rfl (HO3.out.alloc _) ⟨w3.heap.size, 0, none⟩ 1 1 [.string (mkS (labT p))] rfl rfl ?d1 ?d2 ?d3 ?d4 ?d5 ?_)
      case d1 => exact one_nw _ _ _
      case d2 => intro u hu; simp at hu; subst hu; rfl
      case d3 => unfold maxLen; omega
      case d4 => omega
      case d5 => have := HX3.out.size; simp; omega
      intro v1 w4 hown1 hgr1 _
      obtain ⟨a2, c2, rfl⟩ := own_form hown1
      have HO4 : Hid (w4.ownsRow w.heap.size 9 1 (.slice a2 (k + 1) c2) (k + 1) ((strs (ls.take (k + 1))).map Value.string)) := by unfold Hid; rw [HSU.out]; exact hown1
      have HX4 := hid ((HX3.out.alloc HX3.out.size (.cells #[.string (mkS (labT p))] 9)).grown hgr1 (by have := HX3.out.size; simp; omega) (fun k hk => (HO3.out.lt k hk).1))
      clear hown1 hgr1
      go_wp2
      go_roundw
      case rel => exact ⟨k + 1, c2, a2, by omega, by go_num, rfl, HO4, HX4⟩
      case measure => simp [intOf]; omega
    · obtain rfl : k = n := by omega
      have HTA : Hid (ls.take k = ls) := List.take_of_length_le (by rw [HN.out]; exact Nat.le_refl _)
      have hj := join_own HO.out (by rw [HTA.out, HN.out]) h20 (by have := HL.out; rwa [HTA.out] at this ⊢)
      rw [HTA.out] at hj
      go_wp2_with fail
      refine hj.mono ?_
      rintro e w5 ⟨rfl, hb5⟩
      have HX5 := hid (HX.out.trans (hb5.mono HX.out.size))
      clear hb5 hj
      go_wp2
      go_ret
      exact ⟨by rw [← HT.out]; rfl, HX5.out⟩

theorem out_first {ls : List Lb} (h : 0 < ls.length) : (⟨#[123]⟩ : ByteArray) ++ mkS (labT (ls.getD 0 e0)) = mkS ([123] ++ bodyT (ls.take (0 + 1))) := by
  rw [body_one h]; apply ByteArray.ext; simp
theorem out_next {ls : List Lb} {k : Nat} (h : k < ls.length) (h0 : 0 < k) : mkS ([123] ++ bodyT (ls.take k)) ++ ⟨#[44]⟩ ++ mkS (labT (ls.getD k e0)) = mkS ([123] ++ bodyT (ls.take (k + 1))) := by
  rw [body_succ h h0]; apply ByteArray.ext; simp
theorem out_size {ls : List Lb} (h : Sml ls) (k : Nat) : (mkS ([123] ++ bodyT (ls.take k))).size ≤ 4881 := by
  have := body_len h k
  rw [mkS_size]; simp; omega

set_option maxHeartbeats 2000000 in
theorem f88 (a : Option Addr) (n c : Nat) (ls : List Lb) (w : World) (hn : ls.length = n) (hr : HasL w a ls) (hs : Sml ls) :
    Calls Tryz.prog 88 #[.slice a n c] w fun e w' => e = .returned (.string (mkS (txtL ls))) ∧ Below w.heap.size w w' := by
  have h20 : n ≤ 20 := by have := hs.1; omega
  have HN := hid hn
  have HS := hid hs
  have HR := hid hr
  clear hn hs hr
  go_enter Tryz.func88, Tryz.ntmps88
  go_wp2
  go_loopw [3, 8] (fun so si wr => ∃ (k : Nat) (t : ByteArray), k ≤ n ∧ si = .int .i64 k ∧ so = .string t ∧ Hid (t = mkS ([123] ++ bodyT (ls.take k))) ∧ Hid (Below w.heap.size w wr)) (fun _ si _ => n - (intOf si).toNat)
  case atStart => exact ⟨0, ⟨#[123]⟩, Nat.zero_le _, rfl, rfl, rfl, Below.refl _ _⟩
  case round =>
    obtain ⟨k, t, hk, rfl, rfl, HO, HX⟩ := hrel
    by_cases hlt : k < n
    · rcases HR.out with hr | ⟨bb, off, rfl, hbl, hc⟩
      · exact absurd HN.out (by rw [hr]; simp; omega)
      obtain ⟨c0, c1'⟩ := hc k (by rw [HN.out]; exact hlt)
      have d0 := (HX.out.cell (p := ⟨bb, off + k * 2, none⟩) hbl).trans c0
      have d1 := (HX.out.cell (p := ⟨bb, off + k * 2 + 1, none⟩) hbl).trans c1'
      have HSZ := hid (HS.out.2 k (by rw [HN.out]; exact hlt))
      have ht : t.size ≤ 4881 := by rw [HO.out]; exact out_size HS.out k
      have HF : Hid (0 = k → t ++ mkS (labT (ls.getD k e0)) = mkS ([123] ++ bodyT (ls.take (k + 1)))) := by
        intro h; subst h
        rw [HO.out]; exact out_first (by rw [HN.out]; exact hlt)
      have HG : Hid (0 < k → t ++ ⟨#[44]⟩ ++ mkS (labT (ls.getD k e0)) = mkS ([123] ++ bodyT (ls.take (k + 1)))) := by
        intro h
        rw [HO.out]; exact out_next (by rw [HN.out]; exact hlt) h
      clear hc c0 c1'
      generalize ls.getD k e0 = p at *
      have HS1 := hid (S1.new wr p)
      have HLS := hid (lab_str p)
      have hq : (mkS (quoB p.2.data.toList)).size ≤ 202 := by
        have := quoB_len p.2.data.toList
        have := HSZ.out.2
        rw [mkS_size]; simp at *; omega
      have e61 : (⟨#[61]⟩ : ByteArray).size = 1 := rfl
      have e44 : (⟨#[44]⟩ : ByteArray).size = 1 := rfl
      have a1 := add_run p.1 ⟨#[61]⟩ (by have := HSZ.out.1; omega)
      have a2 := add_run (p.1 ++ ⟨#[61]⟩) (mkS (quoB p.2.data.toList)) (by
        have := HSZ.out.1
        rw [ByteArray.size_append]; omega)
      have a3 := add_run t ⟨#[44]⟩ (by omega)
      have a4 := add_run (t ++ ⟨#[44]⟩) (p.1 ++ ⟨#[61]⟩ ++ mkS (quoB p.2.data.toList)) (by
        have := HSZ.out.1
        simp only [ByteArray.size_append]; omega)
      have a5 := add_run t (p.1 ++ ⟨#[61]⟩ ++ mkS (quoB p.2.data.toList)) (by
        have := HSZ.out.1
        simp only [ByteArray.size_append]; omega)
      clear hq ht e61 e44
      by_cases h0 : 0 < k
      · go_wp2_with fail
        go_region_held3 (fun w' => S1 wr p w') (first | exact HS1.out.drew | assumption | exact S1.alloc (by assumption) _) (first | (go_at_call 109; refine (f109 p.2 _ (by have := HSZ.out.2; omega)).mono ?_; rintro e w2 ⟨rfl, hb2⟩; have hs2 := S1.below (by assumption) hb2; clear hb2))
        have HX2 := hid (HX.out.trans (hs2.2.2.mono HX.out.size))
        go_wp2
        go_roundw
        case rel => exact ⟨k + 1, _, by omega, by go_num, rfl, by unfold Hid; rw [← HG.out h0, ← HLS.out], HX2⟩
        case measure => simp [intOf]; omega
      · go_wp2_with fail
        go_region_held3 (fun w' => S1 wr p w') (first | exact HS1.out.drew | assumption | exact S1.alloc (by assumption) _) (first | (go_at_call 109; refine (f109 p.2 _ (by have := HSZ.out.2; omega)).mono ?_; rintro e w2 ⟨rfl, hb2⟩; have hs2 := S1.below (by assumption) hb2; clear hb2))
        have HX2 := hid (HX.out.trans (hs2.2.2.mono HX.out.size))
        go_wp2
        go_roundw
        case rel => exact ⟨k + 1, _, by omega, by go_num, rfl, by unfold Hid; rw [← HF.out (by omega), ← HLS.out], HX2⟩
        case measure => simp [intOf]; omega
    · have HE := hid (body_all (ls := ls) (k := k) (by rw [HN.out]; omega))
      have ht : t.size ≤ 4881 := by rw [HO.out]; exact out_size HS.out k
      have a1 := add_run t ⟨#[125]⟩ (by have : (⟨#[125]⟩ : ByteArray).size = 1 := rfl; omega)
      have HT : Hid (t ++ ⟨#[125]⟩ = mkS (txtL ls)) := by
        unfold Hid
        rw [HO.out, HE.out]; apply ByteArray.ext; simp [txtL]
      clear ht
      go_wp2
      go_ret
      exact ⟨by rw [← HT.out]; rfl, HX.out⟩

def txtR (ls : List Lb) : List UInt8 := if goodL ls = true then txtL ls else []
theorem txtR_yes {ls : List Lb} (h : goodL ls = true) : txtR ls = txtL ls := by unfold txtR; rw [if_pos h]
theorem txtR_no {ls : List Lb} (h : goodL ls = false) : txtR ls = [] := by unfold txtR; rw [if_neg (by simp [h])]

theorem f54 (a : Option Addr) (n c : Nat) (ls : List Lb) (w : World) (hn : ls.length = n) (hmax : n ≤ 1048576) (hr : HasL w a ls) (hf : Fit ls) :
    Calls Tryz.prog 54 #[.slice a n c] w fun e w' => e = .returned (.string (mkS (txtR ls))) ∧ Below w.heap.size w w' := by
  have HN := hid hn
  clear hn
  go_enter Tryz.func54, Tryz.ntmps54
  go_wp2_with fail
  refine (f38 a n c ls _ HN.out (by unfold maxLen; omega) hr hf).mono ?_
  rintro e w1 ⟨rfl, hb0⟩
  have HB1 := hid hb0
  have R1 := hid (hr.below hb0)
  clear hb0
  by_cases hg : goodL ls = true
  · have HY := hid (txtR_yes hg)
    have HS := hid (good_sml hg)
    go_wp2_with fail
    refine (f88 a n c ls _ HN.out R1.out HS.out).mono ?_
    rintro e w2 ⟨rfl, hb2⟩
    have HB2 := hid (HB1.out.trans (hb2.mono HB1.out.size))
    clear hb2
    go_wp2
    go_ret
    exact ⟨by rw [HY.out]; rfl, HB2.out⟩
  · have hg' : goodL ls = false := by simpa using hg
    have HY := hid (txtR_no hg')
    go_wp2
    go_ret
    exact ⟨by rw [HY.out]; rfl, HB1.out⟩
theorem f56 (a : Option Addr) (n c : Nat) (ls : List Lb) (w : World) (hn : ls.length = n) (hmax : n ≤ 1048576) (hr : HasL w a ls) (hf : Fit ls) :
    Calls Tryz.prog 56 #[.slice a n c] w fun e w' => e = .returned (.string (mkS (txtR ls))) ∧ Below w.heap.size w w' := by
  have HN := hid hn
  clear hn
  go_enter Tryz.func56, Tryz.ntmps56
  go_wp2_with fail
  refine (f25 a n c ls _ HN.out (by unfold maxLen; omega) hr hf).mono ?_
  rintro e w1 ⟨rfl, hb0⟩
  have HB1 := hid hb0
  have R1 := hid (hr.below hb0)
  clear hb0
  by_cases hg : goodL ls = true
  · have HY := hid (txtR_yes hg)
    have HS := hid (good_sml hg)
    go_wp2_with fail
    refine (f89 a n c ls _ HN.out R1.out HS.out).mono ?_
    rintro e w2 ⟨rfl, hb2⟩
    have HB2 := hid (HB1.out.trans (hb2.mono HB1.out.size))
    clear hb2
    go_wp2
    go_ret
    exact ⟨by rw [HY.out]; rfl, HB2.out⟩
  · have hg' : goodL ls = false := by simpa using hg
    have HY := hid (txtR_no hg')
    go_wp2
    go_ret
    exact ⟨by rw [HY.out]; rfl, HB1.out⟩
end Go.Proofs.YtooackaijhpohaaGreatDoor.Lab
