/- Both Postings. -/
import Derived.Test.YtginepjkdjikiaaGreatJg
import Derived.Test.YtginepjkdjikiaaGreatGI
namespace Go.Proofs.YtginepjkdjikiaaGreat.Blk
open Go.RowKit
open Go.Proofs.YtginepjkdjikiaaGreat.Lab (Lb HasL OfV GoodP goodL e0 str_eq str_ne)
open Go.Proofs.YtginepjkdjikiaaGreat.Srs (hid lt_at kept Q HasQ FitQ SmlQ GoodQ agQ q0 two good_goodP)
open Go.Proofs.YtginepjkdjikiaaGreat.Ino (Own Now own_form one_row info3)
open Go.Proofs.YtginepjkdjikiaaGreat.Smp (ret_bool)

theorem has_of (ls : List Lb) (x : ByteArray) : ∃ v, OfV ls x v := by
  by_cases h : ∃ k, k < ls.length ∧ (ls.getD k e0).1 = x
  · obtain ⟨k, hk, hx⟩ := h
    have key : ∀ n, (∃ k, k < n ∧ k < ls.length ∧ (ls.getD k e0).1 = x) → ∃ v, OfV ls x v := by
      intro n
      induction n with
      | zero => rintro ⟨k, h, _⟩; omega
      | succ n ih =>
        rintro ⟨k, h1, h2, h3⟩
        by_cases h4 : ∃ k, k < n ∧ k < ls.length ∧ (ls.getD k e0).1 = x
        · exact ih h4
        · exact ⟨(ls.getD k e0).2, .inl ⟨k, h2, h3, rfl, fun i hi he => h4 ⟨i, by omega, by omega, he⟩⟩⟩
    exact key (k + 1) ⟨k, by omega, hk, hx⟩
  · exact ⟨ByteArray.empty, .inr ⟨fun k hk he => h ⟨k, hk, he⟩, rfl⟩⟩
/-- The value under a name. -/
noncomputable def val (ls : List Lb) (x : ByteArray) : ByteArray := Classical.choose (has_of ls x)
theorem val_of (ls : List Lb) (x : ByteArray) : OfV ls x (val ls x) := Classical.choose_spec (has_of ls x)
/-- The numbers among the first k series whose value under x is a right one. -/
noncomputable def pst (R : ByteArray → Bool) (qs : List Q) (x : ByteArray) : Nat → List Int
  | 0 => []
  | k + 1 => pst R qs x k ++ (if R (val (lb qs k) x) = true then [(k : Int)] else [])
theorem pst_len (R : ByteArray → Bool) (qs : List Q) (x : ByteArray) : ∀ k, (pst R qs x k).length ≤ k := by
  intro k
  induction k with
  | zero => exact Nat.le_refl _
  | succ k ih => simp only [pst, List.length_append]; split <;> simp <;> omega
/-- The same text. -/
noncomputable def isV (v u : ByteArray) : Bool := decide (u = v)
noncomputable def pos (h : Bk) (x v : ByteArray) : List Int := if gdB h = true then pst (isV v) h.qs x h.qs.length else []
theorem pos_no {h : Bk} {x v : ByteArray} (g : gdB h = false) : pos h x v = [] := by unfold pos; rw [g]; rfl
theorem pos_yes {h : Bk} {x v : ByteArray} (g : gdB h = true) : pos h x v = pst (isV v) h.qs x h.qs.length := by unfold pos; rw [if_pos g]
theorem pos_len (h : Bk) (x v : ByteArray) : (pos h x v).length ≤ 200 := by
  cases g : gdB h
  · rw [pos_no g]; exact Nat.zero_le _
  · rw [pos_yes g]; exact Nat.le_trans (pst_len _ _ _ _) (gdB_iff.1 g).2.1.1
/-- What a call gives: a row of its own, and nothing else has turned. -/
def Gives (w : World) (L : List Int) (e : Ending) (w' : World) : Prop := ∃ v, e = .returned v ∧ Own w' w.heap.size v L ∧ Below w.heap.size w w'
theorem gives_no {w w' : World} {L : List Int} (h : L = []) (hb : Below w.heap.size w w') : Gives w L (.returned (.slice none 0 0)) w' := by
  subst h; exact ⟨_, rfl, Ino.Own.nil _ _, hb⟩
theorem string_cell {w : World} {b : Nat} {u : Value} {t : TypeId} (h : w.heap[b]? = some (.cells #[u] t)) : w.cell? ⟨b, 0, none⟩ = some u := by
  unfold World.cell?; simp only [h]; rfl

theorem f44 (u v : ByteArray) (B : Nat) (w : World) (hb : w.heap[B]? = some (.cells #[.string v] 9)) :
    Calls Tryz.prog 44 #[.string u, .pointer (some ⟨B, 0, none⟩)] w fun e w' => e = .returned (.bool (isV v u)) ∧ w' = w := by
  have c0 := string_cell hb
  by_cases h : u = v
  · have h1 := str_eq h
    have E := hid (show isV v u = true from decide_eq_true h)
    clear h
    go_enter Tryz.func44, Tryz.ntmps44
    go_wp2
    go_ret
    exact ⟨ret_bool (by rw [E.out]), rfl⟩
  · have h1 := str_ne h
    have E := hid (show isV v u = false from decide_eq_false h)
    clear h
    go_enter Tryz.func44, Tryz.ntmps44
    go_wp2
    go_ret
    exact ⟨ret_bool (by rw [E.out]), rfl⟩

set_option maxHeartbeats 4000000 in
theorem f43 (a : Option Addr) (c : Nat) (qs : List Q) (x v : ByteArray) (B : Nat) (w : World) (hr : HasQ w a qs) (hg : GoodQ qs) (hb : w.heap[B]? = some (.cells #[.string v] 9)) :
    Calls Tryz.prog 43 #[.slice a qs.length c, .string x, .func (.func 44) #[] #[.pointer (some ⟨B, 0, none⟩)]] w (Gives w (pst (isV v) qs x qs.length)) := by
  obtain ⟨i0, hi, hz0, hz1, hz2⟩ := info_parts info3
  have HR := hid hr
  have HG := hid hg
  have HB := hid hb
  have h200 : qs.length ≤ 200 := hg.1
  clear hr hg hb
  obtain ⟨n, hn⟩ : ∃ n, n = qs.length := ⟨_, rfl⟩
  have HN : Hid (qs.length = n) := hn.symm
  rw [← hn] at h200 ⊢
  clear hn
  have H0 : Hid (Now w none 0 [] w) := ⟨Ino.Own.nil _ _, Below.refl _ _⟩
  go_enter Tryz.func43, Tryz.ntmps43
  go_wp2
  go_loopw [7, 12] (fun v7 v12 wr => ∃ (k : Nat) (L : List Int) (a7 : Option Addr) (c7 : Nat), k ≤ n ∧ L.length ≤ k ∧ v12 = .int .i64 (k : Int) ∧ v7 = .slice a7 L.length c7 ∧ Hid (L = pst (isV v) qs x k) ∧ Hid (Now w a7 c7 L wr)) (fun _ v _ => n - (intOf v).toNat)
  case atStart => exact ⟨0, [], none, 0, Nat.zero_le _, Nat.zero_le _, rfl, rfl, rfl, H0⟩
  case round =>
    obtain ⟨k, L, a7, c7, hk, hL, rfl, rfl, HL, HW⟩ := hrel
    by_cases hlt : k < n
    rotate_left
    · obtain rfl : k = n := by omega
      go_wp2
      go_ret
      exact ⟨_, rfl, by rw [← HL.out]; exact HW.out.1, HW.out.2⟩
    have HP : Hid (pst (isV v) qs x (k + 1) = L ++ (if isV v (val (qs.getD k q0).l x) = true then [(k : Int)] else [])) := by unfold Hid; rw [pst, ← HL.out]
    have HGq := hid (HG.out.2 k (by rw [HN.out]; exact hlt)).1.1.1
    obtain ⟨b, off, rfl, hbl, c0, c1, t1, t2⟩ := (HR.out.below HW.out.2).at2 k (by rw [HN.out]; exact hlt)
    obtain ⟨q, hq⟩ : ∃ q, q = qs.getD k q0 := ⟨_, rfl⟩
    simp only [Srs.pl] at HGq
    rw [← hq] at c0 c1 t1 HP HGq
    clear hq t2
    have HB0 := hid ((Below.refl wr.heap.size wr).alloc (Nat.le_refl _) (.cells #[.slice q.a q.l.length q.c, .slice q.b q.s.length q.d] 71))
    have HT1 := hid (t1.below HB0.out)
    have HWa := hid (HW.out.below HB0.out)
    have i1 : (k : Int) < (n : Int) := by omega
    clear t1 hbl
    go_wp2_with fail
    refine (Lab.f49 q.a q.l.length q.c q.l x _ rfl (good_goodP HGq.out) HT1.out).mono ?_
    rintro e w3 ⟨u, hu, rfl, hb3⟩
    obtain rfl := hu.uniq (val_of q.l x)
    have HW3 := hid (HWa.out.below hb3)
    clear hb3 hu c0 c1 HWa HT1 HB0
    go_wp2_with fail
    refine (f44 _ v B _ (kept (kept HB.out (Below.refl _ _)) (by first | exact HW3.out.2 | skip)) ).mono ?_
    rintro e w4 ⟨rfl, rfl⟩
    cases hR : isV v (val q.l x)
    · have e2 : Hid (L = pst (isV v) qs x (k + 1)) := by unfold Hid; rw [HP.out, hR]; simp
      go_wp2
      go_roundw
      case rel => exact ⟨k + 1, L, a7, c7, by omega, by omega, by go_num, rfl, e2, HW3⟩
      case measure => simp [intOf]; omega
    · have e2 : Hid (L ++ [(k : Int)] = pst (isV v) qs x (k + 1)) := by unfold Hid; rw [HP.out, hR]; simp
      have HA := hid (HW3.out.below ((Below.refl _ w4).alloc (Nat.le_refl _) (.cells #[.int .i64 (k : Int)] 3)))
      clear hR
      go_wp2_with (at_builtin; refine wpList_append_own _ rfl (.tmp 23) (.tmp 25) 80 rfl w.heap.size 3 i0 (.int .i64 0) 1 8 Tryz.underlying80 hi hz0 hz1 hz2 rfl (by decide) _ _ _ rfl HA.out.1 ⟨w4.heap.size, 0, none⟩ 1 1 [.int .i64 (k : Int)] rfl rfl ?d1 ?d2 ?d3 ?d4 ?d5 ?_)
      case d1 => intro j u hj; exact one_row _ _ _ j u hj
      case d2 => intro u hu; simp at hu; subst hu; rfl
      case d3 => unfold maxLen; omega
      case d4 => omega
      case d5 => have h5 := HW3.out.2.size; first | omega | (simp; omega)
      intro v1 w6 hown1 hgr1 _
      obtain ⟨a8, c8, rfl⟩ := own_form (L := L ++ [(k : Int)]) (by simpa using hown1)
      have HN6 := hid (HA.out.app hgr1 hown1)
      clear hown1 hgr1 HA
      go_wp2
      go_roundw
      case rel => exact ⟨k + 1, L ++ [(k : Int)], a8, c8, by omega, by simp; omega, by go_num, by simp, e2, HN6⟩
      case measure => simp [intOf]; omega

set_option maxHeartbeats 2000000 in
theorem f9 (h : Bk) (x v : ByteArray) (w : World) (hr : HasB w h) (hf : FitB h) (hz : SmlB h) :
    Calls Tryz.prog 9 #[agB h, .string x, .string v] w (Gives w (pos h x v)) := by
  obtain ⟨W, hW⟩ : ∃ W, W = (w.alloc (.cells (clB h) 26)).alloc (.cells #[.string v] 9) := ⟨_, rfl⟩
  have H0 : Hid (HB w h W) := by unfold Hid; rw [hW]; exact (HB.new hr).below ((Below.refl _ _).alloc (Nat.le_refl _) _)
  have HV : Hid (W.heap[w.heap.size + 1]? = some (.cells #[.string v] 9)) := by
    unfold Hid; rw [hW]
    have := heap_alloc_new (w.alloc (.cells (clB h) 26)) (.cells #[.string v] 9)
    simp only [World.size_alloc] at this
    exact this
  have HF := hid hf
  have HZ := hid hz
  clear hr hf hz
  go_enter Tryz.func9, Tryz.ntmps9
  go_wp2_with fail
  rw [← hW]
  clear hW
  refine (f40 h _ H0.out.has HF.out HZ.out).mono ?_
  rintro e w2 ⟨rfl, hb2⟩
  have H2 := hid (H0.out.below hb2)
  have HV2 := hid (kept HV.out hb2)
  clear hb2 H0 HV
  cases hg : gdB h
  · have E := hid (pos_no (x := x) (v := v) hg)
    go_wp2
    go_ret
    exact gives_no E.out H2.out.bel
  have E := hid (pos_yes (x := x) (v := v) hg)
  have HQ := hid (gdB_iff.1 hg).2.1
  clear hg
  obtain ⟨b0, b1, b2, b3, b4⟩ := five H2.out.box
  go_wp2_with fail
  refine (f43 h.a h.c h.qs x v (w.heap.size + 1) _ H2.out.has.1 HQ.out HV2.out).mono ?_
  rintro e w3 ⟨r, rfl, ho, hb3⟩
  have G := hid (show Own w3 w.heap.size r (pst (isV v) h.qs x h.qs.length) ∧ Below w.heap.size w w3 from ⟨ho.mono H2.out.bel.size, H2.out.bel.trans (hb3.mono H2.out.bel.size)⟩)
  clear ho hb3
  go_wp2
  go_ret
  exact ⟨r, rfl, by rw [E.out]; exact G.out.1, G.out.2⟩

end Go.Proofs.YtginepjkdjikiaaGreat.Blk
