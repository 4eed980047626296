/- The cursor's oddBits. -/
import Derived.Test.YtdcnnlnhopjjfaaCur3
namespace Go.Proofs.Ytdcnnlnhopjjfaa.Cur
open Go.RowKit Go.Proofs.Ytdcnnlnhopjjfaa.Byt Go.Proofs.Ytdcnnlnhopjjfaa.Bts

/-- What a world that ends below B has is as it was, the cursor aside. -/
def Fr (B R : Nat) (w w' : World) : Prop := ∀ v0 : World, v0.heap.size ≤ B → v0.grownBy w (some R) → v0.grownBy w' (some R)
theorem Fr.refl (B R : Nat) (w : World) : Fr B R w w := fun _ _ h => h
theorem Fr.grew {B R : Nat} {w a b : World} (h : Fr B R w a) (hg : a.grownBy b (some R)) : Fr B R w b := fun v0 h0 h1 => Byt.grownBy_trans (h v0 h0 h1) hg
theorem Fr.set {B R : Nat} {w a : World} (h : Fr B R w a) {p : Addr} (hp : B ≤ p.block) (u : Value) : Fr B R w (a.setCell p u) := fun v0 h0 h1 => grown_setCell (h v0 h0 h1) (by omega) u
theorem Fr.alloc {B R : Nat} {w a : World} (h : Fr B R w a) (o : Obj) : Fr B R w (a.alloc o) := fun v0 h0 h1 => grown_alloc (h v0 h0 h1) o
theorem Fr.keeps {B R : Nat} {w a b : World} (h : Fr B R w a) (hk : Keeps B a b) : Fr B R w b := fun v0 h0 h1 => by
  have h2 := h v0 h0 h1
  exact ⟨hk.below.os.trans h2.os, hk.below.tape.trans h2.tape, hk.below.output.trans h2.output, Nat.le_trans h2.size hk.below.size, fun k hk1 hne => (hk.below.block k (Nat.lt_of_lt_of_le hk1 h0)).trans (h2.block k hk1 hne)⟩

theorem or1 (L : Int) (h0 : 0 ≤ L) (h1 : L ≤ 255) : 0 ≤ bits .or .u8 L 1 ∧ bits .or .u8 L 1 ≤ 255 := by
  obtain ⟨y, rfl⟩ := nat_of_byte L h0 h1
  have h : ∀ y : Fin 256, y.val ||| 1 < 256 := by decide +kernel
  have e := u8_or_nat y.val 1 (by omega) (by omega)
  have := h y
  have e' : bits .or .u8 (y.val : Int) 1 = ((y.val ||| 1 : Nat) : Int) := e
  rw [e']; omega

set_option maxHeartbeats 4000000 in
theorem f41 (B0 R n c lim B s rn rc : Nat) (a ra : Option Addr) (zs : List Int) (w : World) (h : Cu B0 R a n c lim w) (hl : lim ≤ 4503599627360000) (hn : n ≤ 1048576)
    (hown : w.ownsRow B 5 1 (.slice ra rn rc) rn (zs.map (Value.int .u8))) (hz : ∀ z ∈ zs, 0 ≤ z ∧ z ≤ 255) (hrn : rn ≤ 100) (hs : s ≤ 100) (hRB : R < B) (hB : B ≤ w.heap.size) :
    Calls Try.prog 41 #[.pointer (some ⟨R, 0, none⟩), .agg #[.slice ra rn rc, .int .i64 s]] w fun e w' => ∃ (a' : Option Addr) (n' c' : Nat) (s' : Int) (zs' : List Int), e = .returned (.agg #[.slice a' n' c', .int .i64 s']) ∧ -8 ≤ s' ∧ s' ≤ 80002 ∧ n' ≤ 10001 ∧ (∀ z ∈ zs', 0 ≤ z ∧ z ≤ 255) ∧
      w'.ownsRow B 5 1 (.slice a' n' c') n' (zs'.map (Value.int .u8)) ∧ Cu B0 R a n c (lim + 2) w' ∧ Fr B R w w' := by
  have hRl := h.lt
  have HC := Bts.hid h
  have hle := h.le
  have HZ := Bts.hid hz
  obtain ⟨i0, hi, hz0, hz1, hz2⟩ := info_parts info5
  have HLEN : Hid (zs.length = rn) := by have h := hown.1; rw [List.length_map, Nat.mul_one] at h; exact h
  have HO0 := Bts.hid hown
  clear h hz hown
  go_enter Try.func41, Try.ntmps41
  go_wp2_with fail
  refine (f46 B0 R n c lim a 16 _ ((HC.out.alloc _).alloc _) (by omega) hn (by omega) (by omega)).mono ?_
  rintro e w1 ⟨x, rfl, x0, x1, hc1, hg1⟩
  have x11 : x ≤ 15 := by omega
  have hX1 : w1.heap[w.heap.size]? = some (.cells #[.slice ra rn rc, .int .i64 s] 24 (0, 0)) := by
    rw [hg1.block _ (by simp; omega) (by intro e; simp at e; omega), Below.heap_alloc _ _ _ (by simp)]; exact heap_alloc_new w _
  have hY1 : w1.heap[w.heap.size + 1]? = some (.cells #[.slice none 0 0, .int .i64 0] 24 (0, 0)) := by
    rw [hg1.block _ (by simp) (by intro e; simp at e; omega)]
    have := heap_alloc_new (w.alloc (.cells #[.slice ra rn rc, .int .i64 s] 24)) (.cells #[.slice none 0 0, .int .i64 0] 24)
    simpa only [World.size_alloc] using this
  have HC1 := Bts.hid hc1
  have HF1 := Bts.hid ((((Fr.refl B R w).alloc (.cells #[.slice ra rn rc, .int .i64 s] 24)).alloc (.cells #[.slice none 0 0, .int .i64 0] 24)).grew hg1)
  have HO1 := Bts.hid (((HO0.out.alloc (.cells #[.slice ra rn rc, .int .i64 s] 24)).alloc (.cells #[.slice none 0 0, .int .i64 0] 24)).kept hg1 (.inr (by intro e; have := (HO0.out.lt _ e).1; omega)))
  have hsz1 : w.heap.size + 1 < w1.heap.size := lt_of_block hY1
  have xx0 := two0 hX1
  have xx1 := two1 hX1
  have xf0 := twof (o := 0) hX1
  have xf1 := twof (o := 1) hX1
  have y0 := two0 hY1
  have y1 := two1 hY1
  have yf0 := twof (o := 0) hY1
  have yf1 := twof (o := 1) hY1
  have HY1 := Bts.hid hY1
  have HX1 := Bts.hid hX1
  clear hc1 hg1 hY1 hX1 x1 HC HO0
  by_cases e0 : x = 0
  · subst e0
    go_wp2
    refine bodyPost_ret (v := .agg #[.slice ra rn rc, .int .i64 ((s : Int) + 1)]) (by simp [results, Try.results41, go_sem, y0, y1]) rfl ⟨ra, rn, rc, (s : Int) + 1, zs, rfl, by omega, by omega, by omega, HZ.out, ?_, ?_, ?_⟩
    · exact ownsRow_setCell_other (ownsRow_setCell_other (ownsRow_setCell_other HO1.out (own_ne' HO1.out HX1.out (by decide)) _) (own_ne' HO1.out HY1.out (by decide)) _) (own_ne' HO1.out HY1.out (by decide)) _
    · exact ((HC1.out.set_other (by simpa using hRl) _).set_other (by simp; omega) _).set_other (by simp; omega) _
    · exact ((HF1.out.set (by simpa using hB) _).set (by simp; omega) _).set (by simp; omega) _
  have e0' : (x == 0) = false := by simp [e0]
  by_cases e1 : x = 1
  · subst e1
    go_wp2
    refine bodyPost_ret (v := .agg #[.slice ra rn rc, .int .i64 ((s : Int) - 1)]) (by simp [results, Try.results41, go_sem, y0, y1]) rfl ⟨ra, rn, rc, (s : Int) - 1, zs, rfl, by omega, by omega, by omega, HZ.out, ?_, ?_, ?_⟩
    · exact ownsRow_setCell_other (ownsRow_setCell_other (ownsRow_setCell_other HO1.out (own_ne' HO1.out HX1.out (by decide)) _) (own_ne' HO1.out HY1.out (by decide)) _) (own_ne' HO1.out HY1.out (by decide)) _
    · exact ((HC1.out.set_other (by simpa using hRl) _).set_other (by simp; omega) _).set_other (by simp; omega) _
    · exact ((HF1.out.set (by simpa using hB) _).set (by simp; omega) _).set (by simp; omega) _
  have e1' : (x == 1) = false := by simp [e1]
  by_cases e2 : x = 2
  · subst e2
    go_wp2_with (at_builtin; refine wpList_append_own _ rfl (.tmp 22) (.tmp 23) 22 rfl B 5 i0 (.int .u8 0) 1 1 Try.underlying22 hi hz0 hz1 hz2 rfl (by decide) _ _ _ rfl (HO1.out.alloc _) ⟨w1.heap.size, 0, none⟩ 1 1 [.int .u8 0] rfl rfl ?d1 ?d2 ?d3 ?d4 ?d5 ?_)
    case d1 => exact Put.one_new w1 (.int .u8 0) 5
    case d2 => first | rfl | (intro u hu; simp at hu; subst hu; rfl)
    case d3 => unfold maxLen; omega
    case d4 => omega
    case d5 => simp; omega
    intro v1 w2 hown1 hgr1 _
    obtain ⟨g, cap1, rfl, hg1, hg2, hg3⟩ := Put.own_shape hown1 (by omega)
    have hk2 : Keeps B w1 w2 := ((Keeps.refl _ _).alloc (by omega) _).grown (HO1.out.alloc _) hgr1 (by simp; omega)
    have HX2 := Bts.hid (hk2.other _ _ _ _ (by decide) HX1.out)
    have HY2 := Bts.hid (hk2.other _ _ _ _ (by decide) HY1.out)
    have x20 := two0 HX2.out
    have x21 := two1 HX2.out
    have x2f0 := twof (o := 0) HX2.out
    have x2f1 := twof (o := 1) HX2.out
    have y20 := two0 HY2.out
    have y21 := two1 HY2.out
    have y2f0 := twof (o := 0) HY2.out
    have y2f1 := twof (o := 1) HY2.out
    have HK := Bts.hid hk2
    have HO2 := Bts.hid hown1
    clear hk2 hown1 hgr1 xx0 xx1 xf0 xf1 y0 y1 yf0 yf1
    go_wp2
    refine bodyPost_ret (v := .agg #[.slice (some ⟨g, 0, none⟩) (rn + 1) cap1, .int .i64 (s : Int)]) (by simp [results, Try.results41, go_sem, y20, y21]) rfl ⟨some ⟨g, 0, none⟩, rn + 1, cap1, s, zs ++ [0], rfl, by omega, by omega, by omega, ?_, ?_, ?_, ?_⟩
    · intro z hz
      rcases List.mem_append.1 hz with hz | hz
      · exact HZ.out z hz
      · simp at hz; subst hz; omega
    · rw [List.map_append]
      exact ownsRow_setCell_other (ownsRow_setCell_other (ownsRow_setCell_other HO2.out (own_ne' HO2.out HX2.out (by decide)) _) (own_ne' HO2.out HY2.out (by decide)) _) (own_ne' HO2.out HY2.out (by decide)) _
    · exact (((HC1.out.keeps HK.out (by omega)).set_other (by simpa using hRl) _).set_other (by simp; omega) _).set_other (by simp; omega) _
    · exact (((HF1.out.keeps HK.out).set (by simpa using hB) _).set (by simp; omega) _).set (by simp; omega) _
  have e2' : (x == 2) = false := by simp [e2]
  by_cases e3 : x = 3
  · subst e3
    by_cases hk : 0 < rn
    · obtain ⟨k, rfl⟩ : ∃ k, rn = k + 1 := ⟨rn - 1, by omega⟩
      obtain ⟨g, rc', hge⟩ : ∃ g c', Value.slice ra (k + 1) rc = .slice (some ⟨g, 0, none⟩) (k + 1) c' := by
        obtain ⟨g, c', h1, _⟩ := Put.own_shape HO1.out (by omega)
        exact ⟨g, c', h1⟩
      simp only [Value.slice.injEq, true_and] at hge
      obtain ⟨rfl, rfl⟩ := hge
      have hgl := HO1.out.lt g rfl
      have hc : w1.cell? ⟨g, k, none⟩ = some (.int .u8 (zs.getD k 0)) := by
        have := HO1.out.cellAt k (by omega)
        rw [this, List.getElem?_map, List.getElem?_eq_getElem (by have := HLEN.out; omega)]
        simp [show k < zs.length from by have := HLEN.out; omega]
      have hf := HO1.out.frozenAt k
      have HL : Hid (0 ≤ zs.getD k 0 ∧ zs.getD k 0 ≤ 255) := by
        have hlt : k < zs.length := by have := HLEN.out; omega
        have e : zs.getD k 0 = zs[k] := by simp [hlt]
        unfold Hid; rw [e]; exact HZ.out _ (List.getElem_mem _)
      have gX : g ≠ w.heap.size := by have := own_ne (cs := [_, _]) HO1.out HX1.out (by decide); exact this
      have gY : g ≠ w.heap.size + 1 := by have := own_ne (cs := [_, _]) HO1.out HY1.out (by decide); exact this
      have HLB := Bts.hid (or1 _ HL.out.1 HL.out.2)
      generalize hL : zs.getD k 0 = L at *
      clear hL
      go_wp2
      refine bodyPost_ret (v := .agg #[.slice (some ⟨g, 0, none⟩) (k + 1) rc, .int .i64 (s : Int)]) (by simp [results, Try.results41, go_sem, y0, y1]) rfl ⟨some ⟨g, 0, none⟩, k + 1, rc, s, zs.set k (bits .or .u8 L 1), rfl, by omega, by omega, by omega, ?_, ?_, ?_, ?_⟩
      · intro z hz
        rcases List.mem_or_eq_of_mem_set hz with hz | rfl
        · exact HZ.out z hz
        · exact HLB.out
      · rw [List.map_set]
        have h2 := (HO1.out.stored k (.int .u8 (bits .or .u8 L 1))).1
        have hY2 := heap_other (p := ⟨g, k, none⟩) (.int .u8 (bits .or .u8 L 1)) (by simpa using gY.symm) HY1.out
        exact ownsRow_setCell_other (ownsRow_setCell_other h2 (own_ne' h2 hY2 (by decide)) _) (own_ne' h2 hY2 (by decide)) _
      · exact ((HC1.out.set_other (by simp; omega) _).set_other (by simp; omega) _).set_other (by simp; omega) _
      · exact ((HF1.out.set (by simp; omega) _).set (by simp; omega) _).set (by simp; omega) _
    · obtain rfl : rn = 0 := by omega
      go_wp2
      refine bodyPost_ret (v := .agg #[.slice ra 0 rc, .int .i64 ((s : Int))]) (by simp [results, Try.results41, go_sem, y0, y1]) rfl ⟨ra, 0, rc, (s : Int), zs, rfl, by omega, by omega, by omega, HZ.out, ?_, ?_, ?_⟩
      · exact ownsRow_setCell_other (ownsRow_setCell_other HO1.out (own_ne' HO1.out HY1.out (by decide)) _) (own_ne' HO1.out HY1.out (by decide)) _
      · exact (HC1.out.set_other (by simp; omega) _).set_other (by simp; omega) _
      · exact (HF1.out.set (by simp; omega) _).set (by simp; omega) _
  have e3' : (x == 3) = false := by simp [e3]
  by_cases e4 : x = 4
  · subst e4
    go_wp2
    refine bodyPost_ret (v := .agg #[.slice ra rn rc, .int .i64 (-8)]) (by simp [results, Try.results41, go_sem, y0, y1]) rfl ⟨ra, rn, rc, -8, zs, rfl, by omega, by omega, by omega, HZ.out, ?_, ?_, ?_⟩
    · exact ownsRow_setCell_other (ownsRow_setCell_other (ownsRow_setCell_other HO1.out (own_ne' HO1.out HX1.out (by decide)) _) (own_ne' HO1.out HY1.out (by decide)) _) (own_ne' HO1.out HY1.out (by decide)) _
    · exact ((HC1.out.set_other (by simpa using hRl) _).set_other (by simp; omega) _).set_other (by simp; omega) _
    · exact ((HF1.out.set (by simpa using hB) _).set (by simp; omega) _).set (by simp; omega) _
  have e4' : (x == 4) = false := by simp [e4]
  clear e0 e1 e2 e3 e4
  go_wp2
  refine bodyPost_ret (v := .agg #[.slice ra rn rc, .int .i64 ((s : Int))]) (by simp [results, Try.results41, go_sem, y0, y1]) rfl ⟨ra, rn, rc, (s : Int), zs, rfl, by omega, by omega, by omega, HZ.out, ?_, ?_, ?_⟩
  · exact ownsRow_setCell_other (ownsRow_setCell_other HO1.out (own_ne' HO1.out HY1.out (by decide)) _) (own_ne' HO1.out HY1.out (by decide)) _
  · exact (HC1.out.set_other (by simp; omega) _).set_other (by simp; omega) _
  · exact (HF1.out.set (by simp; omega) _).set (by simp; omega) _
end Go.Proofs.Ytdcnnlnhopjjfaa.Cur
