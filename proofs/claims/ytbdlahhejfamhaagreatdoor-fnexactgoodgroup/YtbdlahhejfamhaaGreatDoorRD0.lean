/- What the model asks of a node by itself. -/
import Derived.Test.YtbdlahhejfamhaaGreatDoorRB6
import Derived.Test.YtbdlahhejfamhaaGreatDoorRB7
import Derived.Test.YtbdlahhejfamhaaGreatDoorRB8
import Derived.Test.YtbdlahhejfamhaaGreatDoorRA5
import Derived.Test.YtbdlahhejfamhaaGreatDoorRC4
import Derived.Maps.AppendAt
import Derived.Deep.WholeRow
import Derived.Deep.CutRange
namespace Go.Proofs.YtbdlahhejfamhaaGreatDoor.Qry
open Go.RowKit

/-- What the call of l15Node leaves. -/
def NdT (q : R) (w : World) (e : Ending) (w' : World) : Prop := (∃ b, e = .returned (.bool b) ∧ (b = true ↔ (told (pl q) ∧ right (pl q) = true ∧ kidsM (pl q)))) ∧ Below w.heap.size w w'
theorem NdR.told {q : R} {w w' : World} {e : Ending} (h : NdR q w e w') (ht : Qry.told (pl q)) : NdT q w e w' := by
  obtain ⟨⟨b, h1, h2⟩, hb⟩ := h
  exact ⟨⟨b, h1, h2.trans ⟨fun h => ⟨ht, h⟩, fun h => h.2⟩⟩, hb⟩
theorem f101 (q : R) (w : World) (hl : Lst w q) (hf : Ft q) (hs : wt q ≤ 1048576) : Calls Tryz.prog 101 #[agR q] w (NdT q w) := by
  by_cases ht : told (pl q)
  case neg =>
    refine (nd_not q w ht hl hf hs).mono ?_
    rintro e w' ⟨rfl, hb⟩
    exact ⟨⟨false, rfl, fun h => (by cases h), fun h => absurd h.1 ht⟩, hb⟩
  by_cases h1 : q.kd = 1
  · exact (nd_1 q w h1 ht hl hf hs).mono fun e w' h => NdR.told h ht
  by_cases h2 : q.kd = 2
  · exact (nd_2 q w h2 ht hl hf hs).mono fun e w' h => NdR.told h ht
  by_cases h3 : q.kd = 3
  · exact (nd_3 q w h3 ht hl hf hs).mono fun e w' h => NdR.told h ht
  by_cases h4 : q.kd = 4
  · exact (nd_4 q w h4 ht hl hf hs).mono fun e w' h => NdR.told h ht
  by_cases h5 : q.kd = 5
  · exact (nd_5 q w h5 ht hl hf hs).mono fun e w' h => NdR.told h ht
  by_cases h6 : q.kd = 6
  · exact (nd_6 q w h6 ht hl hf hs).mono fun e w' h => NdR.told h ht
  by_cases h7 : q.kd = 7
  · cases hbo : q.bo
    · exact (nd_7n q w h7 hbo ht hl hf hs).mono fun e w' h => NdR.told h ht
    · exact (nd_7b q w h7 hbo ht hl hf hs).mono fun e w' h => NdR.told h ht
  by_cases h8 : q.kd = 8
  · exact (nd_8 q w h8 ht hl hf hs).mono fun e w' h => NdR.told h ht
  by_cases h9 : q.kd = 9
  · exact (nd_9 q w h9 ht hl hf hs).mono fun e w' h => NdR.told h ht
  exact (nd_0 q w (by omega) ht hl hf hs).mono fun e w' h => NdR.told h ht
end Go.Proofs.YtbdlahhejfamhaaGreatDoor.Qry
/- The model takes a tree off a list: plain facts. -/
namespace Go.Proofs.YtbdlahhejfamhaaGreatDoor.Qry
open Go.RowKit

/-- What the call of l15Take leaves: a tree that is as it should be at this depth, and the place behind it; or there is none. -/
def TkR (w0 : World) (rs : List R) (k d : Nat) (w : World) (e : Ending) (w' : World) : Prop :=
  Below w.heap.size w w' ∧ ((∃ z, e = .returned (.tuple #[agX z, .int .i64 (-1)]) ∧ ∀ t x, (rs.drop k).map pl = rows t ++ x → ¬ Gt NM d t) ∨
    ∃ t x m, e = .returned (.tuple #[agX x, .int .i64 ((m : Nat) : Int)]) ∧ k < m ∧ m ≤ rs.length ∧ (rs.drop k).map pl = rows t ++ (rs.drop m).map pl ∧ Gt NM d t ∧ Ev w0 (fun b => w.heap.size ≤ b ∧ b < w'.heap.size) w' t x)
/-- No tree stands deeper than twelve. -/
theorem no_deep {d : Nat} (hd : 12 < d) : ∀ (t : Tr) (x ps : List Pl), ps = rows t ++ x → ¬ Gt NM d t := by
  rintro ⟨r, ks⟩ x ps _ ⟨_, h, _⟩
  have := h.1
  omega
/-- No tree stands where the node by itself is none. -/
theorem no_nodeM {d : Nat} {q : R} {rest : List Pl} (h : ¬ (told (pl q) ∧ right (pl q) = true ∧ kidsM (pl q))) : ∀ t x, pl q :: rest = rows t ++ x → ¬ Gt NM d t :=
  no_here fun _ _ hn => h ⟨hn.2.1, hn.2.2.1, hn.2.2.2.1⟩
/-- Kids of a range that are no selections. -/
theorem no_selM {d : Nat} {r : Pl} {ts : List Tr} {rest : List Pl} {t0 : Tr} {x0 : List Pl} (hts : GtL NM (d + 1) ts) (hl : (ts.length : Int) < r.kc) (h4 : r.kd = 4) (hg : Gt NM (d + 1) t0) (he : rest = rows t0 ++ x0) (h3 : t0.r.kd ≠ 3) : ∀ t x, r :: (rowsL ts ++ rest) = rows t ++ x → ¬ Gt NM d t :=
  no_more hts hl fun t x e hgt ks hp hn => by
    obtain ⟨rfl, _⟩ := rows_one NM NM t t0 _ _ _ _ hgt hg (by rw [← e, ← he])
    obtain ⟨ys, rfl⟩ := hp
    exact h3 (hn.2.2.2.2 h4 t (by simp))
/-- All kids are there: the tree. -/
theorem isM {d : Nat} {q : R} {ks : List Tr} (hd : d ≤ 12) (hn : told (pl q) ∧ right (pl q) = true ∧ kidsM (pl q)) (hl : q.kc = (ks.length : Int)) (hks : GtL NM (d + 1) ks) (h4 : q.kd = 4 → ∀ k ∈ ks, k.r.kd = 3) : Gt NM d (.nd (pl q) ks) := by
  simp only [Gt]
  exact ⟨hl, ⟨hd, hn.1, hn.2.1, hn.2.2, h4⟩, hks⟩
theorem kids_pos {q : R} (hn : kidsM (pl q)) (h8 : right (pl q) = true) : 0 ≤ q.kc := by
  unfold kidsM at hn
  unfold right at h8
  simp only [pl] at hn h8
  by_cases h1 : q.kd = 1; · simp [h1] at hn; omega
  by_cases h2 : q.kd = 2; · simp [h2] at hn; omega
  by_cases h3 : q.kd = 3; · simp [h3] at hn; omega
  by_cases h4 : q.kd = 4; · simp [h4] at hn; omega
  by_cases h5 : q.kd = 5; · simp [h5] at hn; omega
  by_cases h6 : q.kd = 6; · simp [h6] at hn; omega
  by_cases h7 : q.kd = 7; · simp [h7] at hn; omega
  by_cases h9 : q.kd = 9; · simp [h9] at hn; exact hn
  by_cases he : q.kd = 8
  · simp [he] at h8
    unfold rAgg at h8
    simp only [Bool.and_eq_true, decide_eq_true_iff] at h8
    have := h8.2
    split at this <;> omega
  · simp [h1, h2, h3, h4, h5, h6, h7, he, h9] at hn
end Go.Proofs.YtbdlahhejfamhaaGreatDoor.Qry
/- Boxes of sixteen cells: the model's nodes. -/
namespace Go.Proofs.YtbdlahhejfamhaaGreatDoor.Qry
open Go.RowKit

abbrev ZE : Obj := .cells #[.int .i64 0, .int .i64 0, .int .i64 0, .string ⟨#[]⟩, .int .i64 0, .slice none 0 0, .int .i64 0, .bool false, .int .i64 0, .bool false, .int .i64 0, .slice none 0 0, .int .i64 0, .slice none 0 0, .int .i64 0, .slice none 0 0] 58
theorem sixteen {x : World} {b : Nat} {v0 v1 v2 v3 v4 v5 v6 v7 v8 v9 v10 v11 v12 v13 v14 v15 : Value} {t : TypeId} (h : x.heap[b]? = some (.cells #[v0, v1, v2, v3, v4, v5, v6, v7, v8, v9, v10, v11, v12, v13, v14, v15] t)) : x.cell? ⟨b, 0, none⟩ = some v0 ∧ x.cell? ⟨b, 1, none⟩ = some v1 ∧ x.cell? ⟨b, 2, none⟩ = some v2 ∧ x.cell? ⟨b, 3, none⟩ = some v3 ∧ x.cell? ⟨b, 4, none⟩ = some v4 ∧ x.cell? ⟨b, 5, none⟩ = some v5 ∧ x.cell? ⟨b, 6, none⟩ = some v6 ∧ x.cell? ⟨b, 7, none⟩ = some v7 ∧ x.cell? ⟨b, 8, none⟩ = some v8 ∧ x.cell? ⟨b, 9, none⟩ = some v9 ∧ x.cell? ⟨b, 10, none⟩ = some v10 ∧ x.cell? ⟨b, 11, none⟩ = some v11 ∧ x.cell? ⟨b, 12, none⟩ = some v12 ∧ x.cell? ⟨b, 13, none⟩ = some v13 ∧ x.cell? ⟨b, 14, none⟩ = some v14 ∧ x.cell? ⟨b, 15, none⟩ = some v15 := by
  refine ⟨?_, ?_, ?_, ?_, ?_, ?_, ?_, ?_, ?_, ?_, ?_, ?_, ?_, ?_, ?_, ?_⟩ <;> simp [World.cell?, h]
theorem set16 {x : World} {b : Nat} {v0 v1 v2 v3 v4 v5 v6 v7 v8 v9 v10 v11 v12 v13 v14 v15 : Value} {t : TypeId} (h : x.heap[b]? = some (.cells #[v0, v1, v2, v3, v4, v5, v6, v7, v8, v9, v10, v11, v12, v13, v14, v15] t)) (u0 u1 u2 u3 u4 u5 u6 u7 u8 u9 u10 u11 u12 u13 u14 u15 : Value) : (((((((((((((((((x.setCell ⟨b, 0, none⟩ u0).setCell ⟨b, 1, none⟩ u1).setCell ⟨b, 2, none⟩ u2).setCell ⟨b, 3, none⟩ u3).setCell ⟨b, 4, none⟩ u4).setCell ⟨b, 5, none⟩ u5).setCell ⟨b, 6, none⟩ u6).setCell ⟨b, 7, none⟩ u7).setCell ⟨b, 8, none⟩ u8).setCell ⟨b, 9, none⟩ u9).setCell ⟨b, 10, none⟩ u10).setCell ⟨b, 11, none⟩ u11).setCell ⟨b, 12, none⟩ u12).setCell ⟨b, 13, none⟩ u13).setCell ⟨b, 14, none⟩ u14).setCell ⟨b, 15, none⟩ u15)).heap[b]? = some (.cells #[u0, u1, u2, u3, u4, u5, u6, u7, u8, u9, u10, u11, u12, u13, u14, u15] t) := by
  have h0 : (x.setCell ⟨b, 0, none⟩ u0).heap[b]? = some (.cells #[u0, v1, v2, v3, v4, v5, v6, v7, v8, v9, v10, v11, v12, v13, v14, v15] t) := set_at h
  generalize x.setCell ⟨b, 0, none⟩ u0 = x0 at h0 ⊢
  have h1 : (x0.setCell ⟨b, 1, none⟩ u1).heap[b]? = some (.cells #[u0, u1, v2, v3, v4, v5, v6, v7, v8, v9, v10, v11, v12, v13, v14, v15] t) := set_at h0
  generalize x0.setCell ⟨b, 1, none⟩ u1 = x1 at h1 ⊢
  have h2 : (x1.setCell ⟨b, 2, none⟩ u2).heap[b]? = some (.cells #[u0, u1, u2, v3, v4, v5, v6, v7, v8, v9, v10, v11, v12, v13, v14, v15] t) := set_at h1
  generalize x1.setCell ⟨b, 2, none⟩ u2 = x2 at h2 ⊢
  have h3 : (x2.setCell ⟨b, 3, none⟩ u3).heap[b]? = some (.cells #[u0, u1, u2, u3, v4, v5, v6, v7, v8, v9, v10, v11, v12, v13, v14, v15] t) := set_at h2
  generalize x2.setCell ⟨b, 3, none⟩ u3 = x3 at h3 ⊢
  have h4 : (x3.setCell ⟨b, 4, none⟩ u4).heap[b]? = some (.cells #[u0, u1, u2, u3, u4, v5, v6, v7, v8, v9, v10, v11, v12, v13, v14, v15] t) := set_at h3
  generalize x3.setCell ⟨b, 4, none⟩ u4 = x4 at h4 ⊢
  have h5 : (x4.setCell ⟨b, 5, none⟩ u5).heap[b]? = some (.cells #[u0, u1, u2, u3, u4, u5, v6, v7, v8, v9, v10, v11, v12, v13, v14, v15] t) := set_at h4
  generalize x4.setCell ⟨b, 5, none⟩ u5 = x5 at h5 ⊢
  have h6 : (x5.setCell ⟨b, 6, none⟩ u6).heap[b]? = some (.cells #[u0, u1, u2, u3, u4, u5, u6, v7, v8, v9, v10, v11, v12, v13, v14, v15] t) := set_at h5
  generalize x5.setCell ⟨b, 6, none⟩ u6 = x6 at h6 ⊢
  have h7 : (x6.setCell ⟨b, 7, none⟩ u7).heap[b]? = some (.cells #[u0, u1, u2, u3, u4, u5, u6, u7, v8, v9, v10, v11, v12, v13, v14, v15] t) := set_at h6
  generalize x6.setCell ⟨b, 7, none⟩ u7 = x7 at h7 ⊢
  have h8 : (x7.setCell ⟨b, 8, none⟩ u8).heap[b]? = some (.cells #[u0, u1, u2, u3, u4, u5, u6, u7, u8, v9, v10, v11, v12, v13, v14, v15] t) := set_at h7
  generalize x7.setCell ⟨b, 8, none⟩ u8 = x8 at h8 ⊢
  have h9 : (x8.setCell ⟨b, 9, none⟩ u9).heap[b]? = some (.cells #[u0, u1, u2, u3, u4, u5, u6, u7, u8, u9, v10, v11, v12, v13, v14, v15] t) := set_at h8
  generalize x8.setCell ⟨b, 9, none⟩ u9 = x9 at h9 ⊢
  have h10 : (x9.setCell ⟨b, 10, none⟩ u10).heap[b]? = some (.cells #[u0, u1, u2, u3, u4, u5, u6, u7, u8, u9, u10, v11, v12, v13, v14, v15] t) := set_at h9
  generalize x9.setCell ⟨b, 10, none⟩ u10 = x10 at h10 ⊢
  have h11 : (x10.setCell ⟨b, 11, none⟩ u11).heap[b]? = some (.cells #[u0, u1, u2, u3, u4, u5, u6, u7, u8, u9, u10, u11, v12, v13, v14, v15] t) := set_at h10
  generalize x10.setCell ⟨b, 11, none⟩ u11 = x11 at h11 ⊢
  have h12 : (x11.setCell ⟨b, 12, none⟩ u12).heap[b]? = some (.cells #[u0, u1, u2, u3, u4, u5, u6, u7, u8, u9, u10, u11, u12, v13, v14, v15] t) := set_at h11
  generalize x11.setCell ⟨b, 12, none⟩ u12 = x12 at h12 ⊢
  have h13 : (x12.setCell ⟨b, 13, none⟩ u13).heap[b]? = some (.cells #[u0, u1, u2, u3, u4, u5, u6, u7, u8, u9, u10, u11, u12, u13, v14, v15] t) := set_at h12
  generalize x12.setCell ⟨b, 13, none⟩ u13 = x13 at h13 ⊢
  have h14 : (x13.setCell ⟨b, 14, none⟩ u14).heap[b]? = some (.cells #[u0, u1, u2, u3, u4, u5, u6, u7, u8, u9, u10, u11, u12, u13, u14, v15] t) := set_at h13
  generalize x13.setCell ⟨b, 14, none⟩ u14 = x14 at h14 ⊢
  have h15 : (x14.setCell ⟨b, 15, none⟩ u15).heap[b]? = some (.cells #[u0, u1, u2, u3, u4, u5, u6, u7, u8, u9, u10, u11, u12, u13, u14, u15] t) := set_at h14
  generalize x14.setCell ⟨b, 15, none⟩ u15 = x15 at h15 ⊢
  exact h15
theorem set16_far {x : World} {b b' : Nat} {o : Obj} (h : x.heap[b']? = some o) (hne : b' ≠ b) (u0 u1 u2 u3 u4 u5 u6 u7 u8 u9 u10 u11 u12 u13 u14 u15 : Value) : (((((((((((((((((x.setCell ⟨b, 0, none⟩ u0).setCell ⟨b, 1, none⟩ u1).setCell ⟨b, 2, none⟩ u2).setCell ⟨b, 3, none⟩ u3).setCell ⟨b, 4, none⟩ u4).setCell ⟨b, 5, none⟩ u5).setCell ⟨b, 6, none⟩ u6).setCell ⟨b, 7, none⟩ u7).setCell ⟨b, 8, none⟩ u8).setCell ⟨b, 9, none⟩ u9).setCell ⟨b, 10, none⟩ u10).setCell ⟨b, 11, none⟩ u11).setCell ⟨b, 12, none⟩ u12).setCell ⟨b, 13, none⟩ u13).setCell ⟨b, 14, none⟩ u14).setCell ⟨b, 15, none⟩ u15)).heap[b']? = some o := (set1_far (set1_far (set1_far (set1_far (set1_far (set1_far (set1_far (set1_far (set1_far (set1_far (set1_far (set1_far (set1_far (set1_far (set1_far (set1_far h hne (b := b) (i := 0) u0) hne (b := b) (i := 1) u1) hne (b := b) (i := 2) u2) hne (b := b) (i := 3) u3) hne (b := b) (i := 4) u4) hne (b := b) (i := 5) u5) hne (b := b) (i := 6) u6) hne (b := b) (i := 7) u7) hne (b := b) (i := 8) u8) hne (b := b) (i := 9) u9) hne (b := b) (i := 10) u10) hne (b := b) (i := 11) u11) hne (b := b) (i := 12) u12) hne (b := b) (i := 13) u13) hne (b := b) (i := 14) u14) hne (b := b) (i := 15) u15)
theorem below16 {a x : World} {B b : Nat} (hb : Below B a x) (hB : B ≤ b) (u0 u1 u2 u3 u4 u5 u6 u7 u8 u9 u10 u11 u12 u13 u14 u15 : Value) : Below B a (((((((((((((((((x.setCell ⟨b, 0, none⟩ u0).setCell ⟨b, 1, none⟩ u1).setCell ⟨b, 2, none⟩ u2).setCell ⟨b, 3, none⟩ u3).setCell ⟨b, 4, none⟩ u4).setCell ⟨b, 5, none⟩ u5).setCell ⟨b, 6, none⟩ u6).setCell ⟨b, 7, none⟩ u7).setCell ⟨b, 8, none⟩ u8).setCell ⟨b, 9, none⟩ u9).setCell ⟨b, 10, none⟩ u10).setCell ⟨b, 11, none⟩ u11).setCell ⟨b, 12, none⟩ u12).setCell ⟨b, 13, none⟩ u13).setCell ⟨b, 14, none⟩ u14).setCell ⟨b, 15, none⟩ u15)) := ((((((((((((((((hb.setCell (p := ⟨b, 0, none⟩) hB u0).setCell (p := ⟨b, 1, none⟩) hB u1).setCell (p := ⟨b, 2, none⟩) hB u2).setCell (p := ⟨b, 3, none⟩) hB u3).setCell (p := ⟨b, 4, none⟩) hB u4).setCell (p := ⟨b, 5, none⟩) hB u5).setCell (p := ⟨b, 6, none⟩) hB u6).setCell (p := ⟨b, 7, none⟩) hB u7).setCell (p := ⟨b, 8, none⟩) hB u8).setCell (p := ⟨b, 9, none⟩) hB u9).setCell (p := ⟨b, 10, none⟩) hB u10).setCell (p := ⟨b, 11, none⟩) hB u11).setCell (p := ⟨b, 12, none⟩) hB u12).setCell (p := ⟨b, 13, none⟩) hB u13).setCell (p := ⟨b, 14, none⟩) hB u14).setCell (p := ⟨b, 15, none⟩) hB u15)
theorem bde (q : R) (w : World) : (Instr.build 58 #[(0, .agg #[.int .i64 q.kd, .int .i64 q.nu, .int .i64 q.st, .string q.tx, .int .i64 q.op, .slice q.ma q.ms.length q.mc, .int .i64 q.off, .bool q.fx, .int .i64 q.att, .bool q.bo, .int .i64 q.byy, .slice q.na q.ns.length q.nc, .int .i64 q.sd, .slice q.ea q.es.length q.ec, .int .i64 q.kc])]).run Tryz.prog w = .ok (.agg #[.int .i64 q.kd, .int .i64 q.nu, .int .i64 q.st, .string q.tx, .int .i64 q.op, .slice q.ma q.ms.length q.mc, .int .i64 q.off, .bool q.fx, .int .i64 q.att, .bool q.bo, .int .i64 q.byy, .slice q.na q.ns.length q.nc, .int .i64 q.sd, .slice q.ea q.es.length q.ec, .int .i64 q.kc, .slice none 0 0]) w := by kernel_rfl
theorem bde0 (w : World) : (Instr.build 58 #[]).run Tryz.prog w = .ok (.agg #[.int .i64 0, .int .i64 0, .int .i64 0, .string ⟨#[]⟩, .int .i64 0, .slice none 0 0, .int .i64 0, .bool false, .int .i64 0, .bool false, .int .i64 0, .slice none 0 0, .int .i64 0, .slice none 0 0, .int .i64 0, .slice none 0 0]) w := by kernel_rfl
theorem infoE : (Tryz.prog.info? 58).map (fun i => (i.zero, i.size, i.bytes)) = some (some (.agg #[.int .i64 0, .int .i64 0, .int .i64 0, .string ⟨#[]⟩, .int .i64 0, .slice none 0 0, .int .i64 0, .bool false, .int .i64 0, .bool false, .int .i64 0, .slice none 0 0, .int .i64 0, .slice none 0 0, .int .i64 0, .slice none 0 0]), 16, 200) := by kernel_rfl
end Go.Proofs.YtbdlahhejfamhaaGreatDoor.Qry
/- The model takes a tree off a list: where there is none. -/
namespace Go.Proofs.YtbdlahhejfamhaaGreatDoor.Qry
open Go.RowKit

set_option maxHeartbeats 4000000 in
set_option maxRecDepth 100000 in
theorem take_end (a : Option Addr) (c k n : Nat) (d : Int) (w : World) (hk : n ≤ k) : Calls Tryz.prog 61 #[.slice a n c, .int .i64 k, .int .i64 d] w fun e w' => e = .returned (.tuple #[agX ⟨r0, none, 0, 0⟩, .int .i64 (-1)]) ∧ Below w.heap.size w w' := by
  have i1 : (n : Int) ≤ (k : Int) := by omega
  obtain ⟨X, hX⟩ : ∃ X, X = w.alloc ZE := ⟨_, rfl⟩
  have h1 : X.heap[w.heap.size]? = some ZE := by rw [hX]; exact heap_alloc_new w _
  have hbx : Below w.heap.size w X := by rw [hX]; exact (Below.refl _ _).alloc (Nat.le_refl _) _
  have hbd := bde0
  obtain ⟨z0, z1, z2, z3, z4, z5, z6, z7, z8, z9, z10, z11, z12, z13, z14, z15⟩ := sixteen h1
  have f0 := fifteen_frz (o := 0) h1
  have f1 := fifteen_frz (o := 1) h1
  have f2 := fifteen_frz (o := 2) h1
  have f3 := fifteen_frz (o := 3) h1
  have f4 := fifteen_frz (o := 4) h1
  have f5 := fifteen_frz (o := 5) h1
  have f6 := fifteen_frz (o := 6) h1
  have f7 := fifteen_frz (o := 7) h1
  have f8 := fifteen_frz (o := 8) h1
  have f9 := fifteen_frz (o := 9) h1
  have f10 := fifteen_frz (o := 10) h1
  have f11 := fifteen_frz (o := 11) h1
  have f12 := fifteen_frz (o := 12) h1
  have f13 := fifteen_frz (o := 13) h1
  have f14 := fifteen_frz (o := 14) h1
  have f15 := fifteen_frz (o := 15) h1
  obtain ⟨y0, y1, y2, y3, y4, y5, y6, y7, y8, y9, y10, y11, y12, y13, y14, y15⟩ := sixteen (set16 h1 (.int .i64 0) (.int .i64 0) (.int .i64 0) (.string ⟨#[]⟩) (.int .i64 0) (.slice none 0 0) (.int .i64 0) (.bool false) (.int .i64 0) (.bool false) (.int .i64 0) (.slice none 0 0) (.int .i64 0) (.slice none 0 0) (.int .i64 0) (.slice none 0 0))
  have HBP := hid (below16 hbx (Nat.le_refl _) (.int .i64 0) (.int .i64 0) (.int .i64 0) (.string ⟨#[]⟩) (.int .i64 0) (.slice none 0 0) (.int .i64 0) (.bool false) (.int .i64 0) (.bool false) (.int .i64 0) (.slice none 0 0) (.int .i64 0) (.slice none 0 0) (.int .i64 0) (.slice none 0 0))
  have HX := hid hX
  clear hX h1 hbx
  go_enter Tryz.func61, Tryz.ntmps61
  go_upto_region 1 with fail
  rw [← HX.out]
  go_wp2
  refine bodyPost_ret (v := .tuple #[agX ⟨r0, none, 0, 0⟩, .int .i64 (-1)]) (by rw [results_cell_tmp rfl]; simp [go_sem, r0, y0, y1, y2, y3, y4, y5, y6, y7, y8, y9, y10, y11, y12, y13, y14, y15]; rfl) rfl ?_
  exact ⟨rfl, HBP.out⟩
set_option maxHeartbeats 4000000 in
set_option maxRecDepth 100000 in
theorem take_deep (a : Option Addr) (c k n : Nat) (d : Int) (w : World) (hk : k < n) (hd : 12 < d) : Calls Tryz.prog 61 #[.slice a n c, .int .i64 k, .int .i64 d] w fun e w' => e = .returned (.tuple #[agX ⟨r0, none, 0, 0⟩, .int .i64 (-1)]) ∧ Below w.heap.size w w' := by
  have i1 : ¬ (n : Int) ≤ (k : Int) := by omega
  obtain ⟨X, hX⟩ : ∃ X, X = w.alloc ZE := ⟨_, rfl⟩
  have h1 : X.heap[w.heap.size]? = some ZE := by rw [hX]; exact heap_alloc_new w _
  have hbx : Below w.heap.size w X := by rw [hX]; exact (Below.refl _ _).alloc (Nat.le_refl _) _
  have hbd := bde0
  obtain ⟨z0, z1, z2, z3, z4, z5, z6, z7, z8, z9, z10, z11, z12, z13, z14, z15⟩ := sixteen h1
  have f0 := fifteen_frz (o := 0) h1
  have f1 := fifteen_frz (o := 1) h1
  have f2 := fifteen_frz (o := 2) h1
  have f3 := fifteen_frz (o := 3) h1
  have f4 := fifteen_frz (o := 4) h1
  have f5 := fifteen_frz (o := 5) h1
  have f6 := fifteen_frz (o := 6) h1
  have f7 := fifteen_frz (o := 7) h1
  have f8 := fifteen_frz (o := 8) h1
  have f9 := fifteen_frz (o := 9) h1
  have f10 := fifteen_frz (o := 10) h1
  have f11 := fifteen_frz (o := 11) h1
  have f12 := fifteen_frz (o := 12) h1
  have f13 := fifteen_frz (o := 13) h1
  have f14 := fifteen_frz (o := 14) h1
  have f15 := fifteen_frz (o := 15) h1
  obtain ⟨y0, y1, y2, y3, y4, y5, y6, y7, y8, y9, y10, y11, y12, y13, y14, y15⟩ := sixteen (set16 h1 (.int .i64 0) (.int .i64 0) (.int .i64 0) (.string ⟨#[]⟩) (.int .i64 0) (.slice none 0 0) (.int .i64 0) (.bool false) (.int .i64 0) (.bool false) (.int .i64 0) (.slice none 0 0) (.int .i64 0) (.slice none 0 0) (.int .i64 0) (.slice none 0 0))
  have HBP := hid (below16 hbx (Nat.le_refl _) (.int .i64 0) (.int .i64 0) (.int .i64 0) (.string ⟨#[]⟩) (.int .i64 0) (.slice none 0 0) (.int .i64 0) (.bool false) (.int .i64 0) (.bool false) (.int .i64 0) (.slice none 0 0) (.int .i64 0) (.slice none 0 0) (.int .i64 0) (.slice none 0 0))
  have HX := hid hX
  clear hX h1 hbx
  go_enter Tryz.func61, Tryz.ntmps61
  go_upto_region 1 with fail
  rw [← HX.out]
  go_wp2
  refine bodyPost_ret (v := .tuple #[agX ⟨r0, none, 0, 0⟩, .int .i64 (-1)]) (by rw [results_cell_tmp rfl]; simp [go_sem, r0, y0, y1, y2, y3, y4, y5, y6, y7, y8, y9, y10, y11, y12, y13, y14, y15]; rfl) rfl ?_
  exact ⟨rfl, HBP.out⟩
end Go.Proofs.YtbdlahhejfamhaaGreatDoor.Qry
/- The model takes a tree off a list: the main way. -/
namespace Go.Proofs.YtbdlahhejfamhaaGreatDoor.Qry
open Go.RowKit

/-- The kids that were taken, in the world wr; the node's box is at B. -/
structure Tq (w0 : World) (B : Nat) (ks : List Tr) (xs : List E) (ak : Option Addr) (ck : Nat) (wr : World) : Prop where
  row : wr.ownsRow (B + 1) 58 16 (.slice ak xs.length ck) xs.length (flatE xs)
  ev : EvL w0 (fun b => B < b ∧ b < wr.heap.size ∧ (Value.slice ak xs.length ck).ownBlock ≠ some b) wr ks xs
theorem Tq.has {w0 wr : World} {B ck : Nat} {ks : List Tr} {xs : List E} {ak : Option Addr} (h : Tq w0 B ks xs ak ck wr) : EvL w0 (fun b => B ≤ b ∧ b < wr.heap.size) wr ks xs ∧ HasE (fun b => B ≤ b ∧ b < wr.heap.size) wr ak xs :=
  Ts.has (W1 := wr) ⟨Below.refl _ _, h.row, h.ev⟩
theorem Tq.next {w0 wr w5 w7 w8 : World} {B ck c3 : Nat} {ks : List Tr} {xs : List E} {ak a3 : Option Addr} {t : Tr} {x : E} (h : Tq w0 B ks xs ak ck wr) (hs : B + 1 ≤ wr.heap.size)
    (hb : Below wr.heap.size wr w5) (hev : Ev w0 (fun b => wr.heap.size ≤ b ∧ b < w5.heap.size) w5 t x) (h7 : Below w5.heap.size w5 w7) (hg : w7.grownBy w8 (Value.slice ak xs.length ck).ownBlock)
    (ho : w8.ownsRow (B + 1) 58 16 (.slice a3 (xs.length + 1) c3) (xs.length + 1) (flatE xs ++ clE x)) (hd : (Value.slice a3 (xs.length + 1) c3).ownBlock = (Value.slice ak xs.length ck).ownBlock ∨ (Value.slice a3 (xs.length + 1) c3).ownBlock = some w7.heap.size) (v : Value) :
    Tq w0 B (ks ++ [t]) (xs ++ [x]) a3 c3 (w8.setCell ⟨B, 15, none⟩ v) := by
  have hlt : ∀ g, (Value.slice ak xs.length ck).ownBlock = some g → B + 1 ≤ g ∧ g < wr.heap.size := fun g e => h.row.lt g e
  have hs5 := hb.size
  have hs7 := h7.size
  have hs8 := hg.size
  have hlen : (xs ++ [x]).length = xs.length + 1 := by simp
  have hss : (w8.setCell ⟨B, 15, none⟩ v).heap.size = w8.heap.size := by simp
  have hset : ∀ y, y ≠ B → (w8.setCell ⟨B, 15, none⟩ v).heap[y]? = w8.heap[y]? := fun y hy => Below.heap_setCell w8 ⟨B, 15, none⟩ v y hy
  refine ⟨?_, ?_⟩
  · rw [hlen, flatE_snoc]
    rcases ho.2 with ⟨h1, h2⟩ | ⟨g, cap, cur, h1, h2, h3', h4⟩
    · exact absurd h2 (by omega)
    · exact ⟨ho.1, .inr ⟨g, cap, cur, h1, h2, (hset g (by omega)).trans h3', h4⟩⟩
  · rw [hlen]
    refine EvL.snoc ?_ ks xs ?_
    · refine Ev.agr (S := fun b => wr.heap.size ≤ b ∧ b < w5.heap.size) ⟨by omega, fun y hb1 hb2 => ?_, fun y hb1 => ⟨by omega, by omega, ?_⟩⟩ t x hev
      · rw [hset y (by omega)]
        refine (hg.block y (by omega) (fun e => ?_)).trans (h7.block y hb2)
        have := hlt y e.symm; omega
      · intro e
        rcases hd with hd | hd
        · rw [hd] at e; have := hlt y e; omega
        · rw [hd] at e; simp at e; omega
    · refine EvL.agr (S := fun b => B < b ∧ b < wr.heap.size ∧ (Value.slice ak xs.length ck).ownBlock ≠ some b) ⟨by omega, fun y hb1 hb2 => ?_, fun y hb1 => ⟨hb1.1, by omega, ?_⟩⟩ ks xs h.ev
      · rw [hset y (by omega)]
        exact (hg.block y (by omega) (fun e => hb1.2.2 e.symm)).trans ((h7.block y (by omega)).trans (hb.block y hb2))
      · intro e
        rcases hd with hd | hd
        · rw [hd] at e; exact hb1.2.2 e
        · rw [hd] at e; simp at e; omega
def TakeOkQ (D : Nat) : Prop := ∀ (rs : List R) (a : Option Addr) (c k d : Nat) (w0 w : World), 13 ≤ d + D → d ≤ 13 → k ≤ rs.length → rs.length ≤ 60 → HasR w0 a rs → (∀ q ∈ rs, Rw w0 q) → Below w0.heap.size w0 w →
  Calls Tryz.prog 61 #[.slice a rs.length c, .int .i64 k, .int .i64 d] w (TkR w0 rs k d w)
theorem drop_q {rs : List R} {k : Nat} (h : k < rs.length) : (rs.drop k).map pl = pl (rs.getD k r0) :: (rs.drop (k + 1)).map pl := by
  have e : rs.getD k r0 = rs[k] := by simp [List.getD_eq_getElem?_getD, h]
  rw [e, List.drop_eq_getElem_cons h, List.map_cons]
theorem mem_q {rs : List R} {k : Nat} (h : k < rs.length) : rs.getD k r0 ∈ rs := by simp [List.getD_eq_getElem?_getD, h]
abbrev EO (q : R) (ak : Option Addr) (n ck : Nat) : Obj := .cells #[.int .i64 q.kd, .int .i64 q.nu, .int .i64 q.st, .string q.tx, .int .i64 q.op, .slice q.ma q.ms.length q.mc, .int .i64 q.off, .bool q.fx, .int .i64 q.att, .bool q.bo, .int .i64 q.byy, .slice q.na q.ns.length q.nc, .int .i64 q.sd, .slice q.ea q.es.length q.ec, .int .i64 q.kc, .slice ak n ck] 58
theorem sixteen_new (w : World) (x : E) : ∀ j u, (clE x)[j]? = some u → (w.alloc (EO x.q x.a x.n x.c)).cell? ((⟨w.heap.size, 0, none⟩ : Addr).add j) = some u := by
  intro j u hj
  have h := heap_alloc_new w (EO x.q x.a x.n x.c)
  have hl : j < 16 := by
    have := (List.getElem?_eq_some_iff.1 hj).1
    rw [clE_len] at this; exact this
  have ha : ((⟨w.heap.size, 0, none⟩ : Addr).add j) = ⟨w.heap.size, j, none⟩ := by
    by_cases h0 : j = 0
    · subst h0; simp [Addr.add]
    · simp [Addr.add, h0]
  rw [ha]
  simp only [World.cell?, h, Option.isSome_none, Bool.false_eq_true, if_false]
  rw [← hj, List.getElem?_toArray]
  rfl
set_option maxHeartbeats 8000000 in
set_option maxRecDepth 100000 in
theorem take_none (q : R) (b off c k n d : Nat) (w w0 : World) (hk : k < n) (hd : d ≤ 12) (hrw : Rw w0 q) (hb0 : Below w0.heap.size w0 w) (hbl : b < w.heap.size) (hcl : Cells w b (off + k * 15) q) (h : ¬ (told (pl q) ∧ right (pl q) = true ∧ kidsM (pl q))) :
    Calls Tryz.prog 61 #[.slice (some ⟨b, off, none⟩) n c, .int .i64 k, .int .i64 d] w fun e w' => e = .returned (.tuple #[agX ⟨r0, none, 0, 0⟩, .int .i64 (-1)]) ∧ Below w.heap.size w w' := by
  have i1 : ¬ (k : Int) ≥ (n : Int) := by omega
  have i2 : ¬ (d : Int) > 12 := by omega
  have i3 : (k : Int) < (n : Int) := by omega
  obtain ⟨X, hX⟩ : ∃ X, X = w.alloc ZE := ⟨_, rfl⟩
  have h1 : X.heap[w.heap.size]? = some ZE := by rw [hX]; exact heap_alloc_new w _
  have hbx : Below w.heap.size w X := by rw [hX]; exact (Below.refl _ _).alloc (Nat.le_refl _) _
  have hbx0 : Below w.heap.size w X := hbx
  have hbd := bde0
  obtain ⟨c0, c1, c2, c3, c4, c5, c6, c7, c8, c9, c10, c11, c12, c13, c14⟩ := (hcl.below hbx hbl).all
  have HND := hid (f101 q X ((hrw.at_ hb0).below hbx) hrw.ft hrw.sm)
  have HX1 := hid h1
  have HBX := hid hbx
  have HH := hid h
  have HX := hid hX
  clear hX h1 hbx hbx0 h hrw hb0 hcl
  go_enter Tryz.func61, Tryz.ntmps61
  go_upto_region 1 with fail
  rw [← HX.out]
  go_wp2_with fail
  refine HND.out.mono ?_
  rintro e w2 ⟨⟨bb, rfl, hbb⟩, hb2⟩
  cases bb
  rotate_left
  · exact absurd (hbb.1 rfl) HH.out
  have h2 := kept HX1.out hb2
  have hbx2 := HBX.out.trans (hb2.mono HBX.out.size)
  clear hb2 hbb HND c0 c1 c2 c3 c4 c5 c6 c7 c8 c9 c10 c11 c12 c13 c14
  obtain ⟨z0, z1, z2, z3, z4, z5, z6, z7, z8, z9, z10, z11, z12, z13, z14, z15⟩ := sixteen h2
  have f0 := fifteen_frz (o := 0) h2
  have f1 := fifteen_frz (o := 1) h2
  have f2 := fifteen_frz (o := 2) h2
  have f3 := fifteen_frz (o := 3) h2
  have f4 := fifteen_frz (o := 4) h2
  have f5 := fifteen_frz (o := 5) h2
  have f6 := fifteen_frz (o := 6) h2
  have f7 := fifteen_frz (o := 7) h2
  have f8 := fifteen_frz (o := 8) h2
  have f9 := fifteen_frz (o := 9) h2
  have f10 := fifteen_frz (o := 10) h2
  have f11 := fifteen_frz (o := 11) h2
  have f12 := fifteen_frz (o := 12) h2
  have f13 := fifteen_frz (o := 13) h2
  have f14 := fifteen_frz (o := 14) h2
  have f15 := fifteen_frz (o := 15) h2
  obtain ⟨y0, y1, y2, y3, y4, y5, y6, y7, y8, y9, y10, y11, y12, y13, y14, y15⟩ := sixteen (set16 h2 (.int .i64 0) (.int .i64 0) (.int .i64 0) (.string ⟨#[]⟩) (.int .i64 0) (.slice none 0 0) (.int .i64 0) (.bool false) (.int .i64 0) (.bool false) (.int .i64 0) (.slice none 0 0) (.int .i64 0) (.slice none 0 0) (.int .i64 0) (.slice none 0 0))
  have HBP := hid (below16 hbx2 (Nat.le_refl _) (.int .i64 0) (.int .i64 0) (.int .i64 0) (.string ⟨#[]⟩) (.int .i64 0) (.slice none 0 0) (.int .i64 0) (.bool false) (.int .i64 0) (.bool false) (.int .i64 0) (.slice none 0 0) (.int .i64 0) (.slice none 0 0) (.int .i64 0) (.slice none 0 0))
  clear h2 hbx2
  go_wp2
  refine bodyPost_ret (v := .tuple #[agX ⟨r0, none, 0, 0⟩, .int .i64 (-1)]) (by rw [results_cell_tmp rfl]; simp [go_sem, r0, y0, y1, y2, y3, y4, y5, y6, y7, y8, y9, y10, y11, y12, y13, y14, y15]; rfl) rfl ?_
  exact ⟨rfl, HBP.out⟩
end Go.Proofs.YtbdlahhejfamhaaGreatDoor.Qry
/- Whole nodes of the model read and written in one step. -/
namespace Go.Proofs.YtbdlahhejfamhaaGreatDoor.Qry
open Go.RowKit

abbrev arX (x : E) : Array Value := #[.int .i64 x.q.kd, .int .i64 x.q.nu, .int .i64 x.q.st, .string x.q.tx, .int .i64 x.q.op, .slice x.q.ma x.q.ms.length x.q.mc, .int .i64 x.q.off, .bool x.q.fx, .int .i64 x.q.att, .bool x.q.bo, .int .i64 x.q.byy, .slice x.q.na x.q.ns.length x.q.nc, .int .i64 x.q.sd, .slice x.q.ea x.q.es.length x.q.ec, .int .i64 x.q.kc, .slice x.a x.n x.c]
theorem EO_ar (x : E) : EO x.q x.a x.n x.c = .cells (arX x) 58 := rfl
abbrev arZ : Array Value := #[.int .i64 0, .int .i64 0, .int .i64 0, .string ⟨#[]⟩, .int .i64 0, .slice none 0 0, .int .i64 0, .bool false, .int .i64 0, .bool false, .int .i64 0, .slice none 0 0, .int .i64 0, .slice none 0 0, .int .i64 0, .slice none 0 0]
theorem sizE : (Tryz.prog.info? 58).map (·.size) = some 16 := by kernel_rfl
theorem loadE {w : World} {b : Nat} {c : Array Value} (hb : w.heap[b]? = some (.cells c 58)) (hc : c.size = 16) : (loadVar 58 ⟨b, 0, none⟩).run Tryz.prog w = .ok (.agg c) w := by
  exact run_loadVar_row w b _ _ c (0, 0) _ hb Tryz.underlying58 rfl (by rw [sizE, hc])
theorem storeE {w : World} {b : Nat} {old c : Array Value} (hb : w.heap[b]? = some (.cells old 58)) (ho : old.size = 16) (hc : c.size = 16) (h1 : c.all (·.oneCell') = true) : (storeVar 58 ⟨b, 0, none⟩ (.agg c)).run Tryz.prog w = .ok () (w.setRow b c) :=
  run_storeVar_row w b _ _ old c hb (by rw [sizE, hc]) (by rw [ho, hc]) h1
variable {ops : Array Oper} {Q : Exit → Act → World → Prop} {rest : List Oper} {a : Act} {w : World} {o : Oper}
theorem step_move {p : Operand} (hg : o.guard = none) (ho : o.op = .move p) (h : wpList Tryz.prog ops Q rest (a.put o.dst (a.eval p)) w) : wpList Tryz.prog ops Q (o :: rest) a w := by
  refine wpList_plain hg (fun K hK => ?_)
  unfold Oper.wp
  have : (execOp a.eval o).run Tryz.prog w = .ok (.value (a.eval p)) w := by unfold execOp; simp only [ho]; rfl
  rw [this]
  exact hK _ _ h
theorem step_loadE {p : Operand} {b : Nat} {c : Array Value} (hg : o.guard = none) (ho : o.op = .load 58 p) (hp : a.eval p = .pointer (some ⟨b, 0, none⟩)) (hb : w.heap[b]? = some (.cells c 58)) (hc : c.size = 16) (h : wpList Tryz.prog ops Q rest (a.put o.dst (.agg c)) w) : wpList Tryz.prog ops Q (o :: rest) a w := by
  refine wpList_plain hg (fun K hK => ?_)
  unfold Oper.wp
  have : (execOp a.eval o).run Tryz.prog w = .ok (.value (.agg c)) w := by
    unfold execOp
    simp only [ho, hp, Instr.loadAt, Instr.sureAddr, Sem.run_bind, Sem.run_pure, Result.andThen, loadE hb hc]
  rw [this]
  exact hK _ _ h
theorem step_storeE {p v : Operand} {b : Nat} {old c : Array Value} (hg : o.guard = none) (ho : o.op = .store 58 p v) (hp : a.eval p = .pointer (some ⟨b, 0, none⟩)) (hv : a.eval v = .agg c) (hb : w.heap[b]? = some (.cells old 58)) (hs : old.size = 16) (hc : c.size = 16) (h1 : c.all (·.oneCell') = true) (h : wpList Tryz.prog ops Q rest (a.put o.dst undef) (w.setRow b c)) : wpList Tryz.prog ops Q (o :: rest) a w := by
  refine wpList_plain hg (fun K hK => ?_)
  unfold Oper.wp
  have : (execOp a.eval o).run Tryz.prog w = .ok .skip (w.setRow b c) := by
    unfold execOp
    simp only [ho, hp, hv, Instr.storeAt, Instr.sureAddr, Sem.run_bind, Sem.run_pure, Result.andThen, storeE hb hs hc h1]
  rw [this]
  exact hK _ _ h
theorem step_zeroE (hg : o.guard = none) (ho : o.op = .build 58 #[]) (h : wpList Tryz.prog ops Q rest (a.put o.dst (.agg arZ)) w) : wpList Tryz.prog ops Q (o :: rest) a w := by
  refine wpList_plain hg (fun K hK => ?_)
  unfold Oper.wp
  have : (execOp a.eval o).run Tryz.prog w = .ok (.value (.agg arZ)) w := by
    unfold execOp
    have := bde0 w
    simp only [ho, Sem.run_bind, Result.andThen]
    simp [this]
  rw [this]
  exact hK _ _ h
theorem step_allocE (hg : o.guard = none) (ho : o.op = .alloc 58) (h : wpList Tryz.prog ops Q rest (a.put o.dst (.pointer (some ⟨w.heap.size, 0, none⟩))) (w.alloc ZE)) : wpList Tryz.prog ops Q (o :: rest) a w := by
  refine wpList_plain hg (fun K hK => ?_)
  unfold Oper.wp
  have : (execOp a.eval o).run Tryz.prog w = .ok (.value (.pointer (some ⟨w.heap.size, 0, none⟩))) (w.alloc ZE) := by
    unfold execOp
    have hz : ∀ w, (zeroValue 58).run Tryz.prog w = .ok (.agg arZ) w := (zero_of_info (n := 16) (by kernel_rfl)).1
    simp only [ho, Sem.run_bind, Instr.alloc, hz, Result.andThen]
    rfl
  rw [this]
  exact hK _ _ h
theorem res_row {fn : Func} {p u : Tmp} (h : fn.results = #[.cell p 58, .tmp u]) (tmps : Array Value) (w : World) (b : Nat) (c : Array Value) (hp : tmps.getD p undef = .pointer (some ⟨b, 0, none⟩)) (hb : w.heap[b]? = some (.cells c 58)) (hc : c.size = 16) : (results fn tmps).run Tryz.prog w = .ok (.tuple #[.agg c, tmps.getD u undef]) w := by
  rw [results_cell_tmp h, hp]
  have : (asAddr (.pointer (some ⟨b, 0, none⟩))).run Tryz.prog w = .ok ⟨b, 0, none⟩ w := rfl
  rw [this]
  simp only [Result.andThen, loadE hb hc]
/-- The world behind a whole row's store. -/
theorem row_at {w : World} {b : Nat} {old c : Array Value} (hb : w.heap[b]? = some (.cells old 58)) : (w.setRow b c).heap[b]? = some (.cells c 58) := setRow_heap w b old c _ _ hb
theorem row_far {w : World} {b y : Nat} {c : Array Value} (h : y ≠ b) : (w.setRow b c).heap[y]? = w.heap[y]? := setRow_other w b y c h
theorem row_below {B g : Nat} {w0 w : World} (hb : Below B w0 w) (hBg : B ≤ g) (c : Array Value) : Below B w0 (w.setRow g c) := hb.trans ⟨rfl, rfl, rfl, by simp [World.setRow], fun k hk => setRow_other w g k c (by omega)⟩
theorem oneX (x : E) : (arX x).all (·.oneCell') = true := by simp [Value.oneCell']
theorem oneZ : arZ.all (·.oneCell') = true := by simp [Value.oneCell']
end Go.Proofs.YtbdlahhejfamhaaGreatDoor.Qry
/- The model takes a tree off a list: its kids, one by one. -/
namespace Go.Proofs.YtbdlahhejfamhaaGreatDoor.Qry
open Go.RowKit

theorem rowsL_len : ∀ ks : List Tr, ks.length ≤ (rowsL ks).length
  | [] => Nat.zero_le _
  | .nd r kk :: ks => by
    have := rowsL_len ks
    simp only [rowsL, rows, List.length_append, List.length_cons]
    omega
theorem own_formQ {w : World} {base e size n : Nat} {v : Value} {xs : List Value} (h : w.ownsRow base e size v n xs) : ∃ a c, v = .slice a n c := by
  rcases h.2 with ⟨h1, h2⟩ | ⟨g, cap, cur, h1, _⟩
  · subst h2; exact ⟨none, 0, h1⟩
  · exact ⟨_, _, h1⟩
theorem cell16 {x : World} {b : Nat} {q : R} {ak : Option Addr} {n ck : Nat} (h : x.heap[b]? = some (EO q ak n ck)) : x.cell? ⟨b, 15, none⟩ = some (.slice ak n ck) := (sixteen h).2.2.2.2.2.2.2.2.2.2.2.2.2.2.2
/-- Where the kids stand: m is next on the list, ks have been taken. -/
structure Sk (w0 : World) (rs : List R) (k d : Nat) (w : World) (q : R) (B : Nat) (m : Nat) (ks : List Tr) (xs : List E) (ak : Option Addr) (ck : Nat) (wr : World) : Prop where
  km : k < m
  mn : m ≤ rs.length
  kc : (ks.length : Int) ≤ q.kc
  len : xs.length = ks.length
  tq : Tq w0 B ks xs ak ck wr
  box : wr.heap[B]? = some (EO q ak xs.length ck)
  res : wr.heap[w.heap.size]? = some ZE
  bel : Below w.heap.size w wr
  ord : w.heap.size < B
  ps : (rs.drop k).map pl = pl q :: (rowsL ks ++ (rs.drop m).map pl)
  gt : GtL NM (d + 1) ks
  sel : q.kd = 4 → ∀ t ∈ ks, t.r.kd = 3
set_option maxHeartbeats 16000000 in
set_option maxRecDepth 100000 in
theorem take_step (D : Nat) (ih : TakeOkQ D) (rs : List R) (b off c k d : Nat) (w0 w : World) (q : R) (hq : q = rs.getD k r0) (hD : 12 ≤ d + D) (hd : d ≤ 12) (hk : k < rs.length) (h60 : rs.length ≤ 60) (hr : HasR w0 (some ⟨b, off, none⟩) rs) (hrs : ∀ q ∈ rs, Rw w0 q) (hb0 : Below w0.heap.size w0 w) (hbl : b < w0.heap.size) (hcl : Cells w0 b (off + k * 15) q) (hn : told (pl q) ∧ right (pl q) = true ∧ kidsM (pl q)) :
    Calls Tryz.prog 61 #[.slice (some ⟨b, off, none⟩) rs.length c, .int .i64 k, .int .i64 d] w (TkR w0 rs k d w) := by
  have hrw : Rw w0 q := by rw [hq]; exact hrs _ (mem_q hk)
  have hps0 : (rs.drop k).map pl = pl q :: (rs.drop (k + 1)).map pl := by rw [hq]; exact drop_q hk
  have i1 : ¬ (k : Int) ≥ (rs.length : Int) := by omega
  have i2 : ¬ (d : Int) > 12 := by omega
  have i3 : (k : Int) < (rs.length : Int) := by omega
  obtain ⟨X, hX⟩ : ∃ X, X = w.alloc ZE := ⟨_, rfl⟩
  have h1 : X.heap[w.heap.size]? = some ZE := by rw [hX]; exact heap_alloc_new w _
  have hbx : Below w.heap.size w X := by rw [hX]; exact (Below.refl _ _).alloc (Nat.le_refl _) _
  have hbd0 := bde0
  have hbd := bde q
  have hw0 := hb0.size
  have hclw := hcl.below hb0 hbl
  have hblw : b < w.heap.size := by omega
  obtain ⟨c0, c1, c2, c3, c4, c5, c6, c7, c8, c9, c10, c11, c12, c13, c14⟩ := (hclw.below hbx hblw).all
  have HND := hid (f101 q X ((hrw.at_ hb0).below hbx) hrw.ft hrw.sm)
  have HX1 := hid h1
  have HBX := hid hbx
  have HH := hid hn
  have HX := hid hX
  have HCL := hid hclw
  have HB0 := hid hb0
  have HRS := hid hrs
  have HR := hid hr
  have HQ := hid hrw
  have HP0 := hid hps0
  have IH := hid ih
  clear hX h1 hbx hrw hb0 hcl hn hclw hrs hr hq hps0 ih
  go_enter Tryz.func61, Tryz.ntmps61
  go_upto_region 1 with fail
  rw [← HX.out]
  go_wp2_with fail
  refine HND.out.mono ?_
  rintro e w2 ⟨⟨bb, rfl, hbb⟩, hb2⟩
  cases bb
  · exact absurd (hbb.2 HH.out) (by simp)
  have hbx2 := HBX.out.trans (hb2.mono HBX.out.size)
  have H2 := hid (kept HX1.out hb2)
  have HBX2 := hid hbx2
  clear hb2 hbb HND c0 c1 c2 c3 c4 c5 c6 c7 c8 c9 c10 c11 c12 c13 c14
  obtain ⟨c0, c1, c2, c3, c4, c5, c6, c7, c8, c9, c10, c11, c12, c13, c14⟩ := (HCL.out.below hbx2 hblw).all
  obtain ⟨W3, hW3⟩ : ∃ W, W = w2.alloc (EO q none 0 0) := ⟨_, rfl⟩
  have HS3 : Hid (Sk w0 rs k d w q w2.heap.size (k + 1) [] [] none 0 W3) := by
    have hb3 : Below w2.heap.size w2 W3 := by rw [hW3]; exact (Below.refl _ _).alloc (Nat.le_refl _) _
    have hk0 := kids_pos HH.out.2.2 HH.out.2.1
    exact ⟨by omega, by omega, by simpa using hk0, rfl, ⟨by simpa [flatE] using World.ownsRow_nil _ _ _ _, by simp [EvL]⟩, by rw [hW3]; exact heap_alloc_new w2 _, kept H2.out hb3, hbx2.trans (hb3.mono hbx2.size), (Array.getElem?_eq_some_iff.1 H2.out).1, by simpa [rowsL] using HP0.out, by simp [GtL], by simp⟩
  have HW3 := hid hW3
  clear hW3 hbx2
  go_upto_region 4 with fail
  rw [← HW3.out]
  clear HW3 c0 c1 c2 c3 c4 c5 c6 c7 c8 c9 c10 c11 c12 c13 c14 hbd HBX HX HX1 HCL H2 HBX2
  generalize w2.heap.size = B at *
  generalize (Value.agg #[.int .i64 q.kd, .int .i64 q.nu, .int .i64 q.st, .string q.tx, .int .i64 q.op, .slice q.ma q.ms.length q.mc, .int .i64 q.off, .bool q.fx, .int .i64 q.att, .bool q.bo, .int .i64 q.byy, .slice q.na q.ns.length q.nc, .int .i64 q.sd, .slice q.ea q.es.length q.ec, .int .i64 q.kc, .slice none 0 0]) = A16
  generalize (Value.agg #[.int .i64 q.kd, .int .i64 q.nu, .int .i64 q.st, .string q.tx, .int .i64 q.op, .slice q.ma q.ms.length q.mc, .int .i64 q.off, .bool q.fx, .int .i64 q.att, .bool q.bo, .int .i64 q.byy, .slice q.na q.ns.length q.nc, .int .i64 q.sd, .slice q.ea q.es.length q.ec, .int .i64 q.kc]) = A15
  go_wp2
  go_loopw [1, 9] (fun s1 s9 wr => ∃ (m : Nat) (ks : List Tr) (xs : List E) (ak : Option Addr) (ck : Nat), s1 = .int .i64 (m : Int) ∧ s9 = .int .i64 ((ks.length : Nat) : Int) ∧ Hid (Sk w0 rs k d w q B m ks xs ak ck wr)) (fun _ s9 _ => (q.kc - intOf s9).toNat)
  case atStart => exact ⟨k + 1, [], [], none, 0, by congr 1, rfl, HS3⟩
  case round =>
    clear HS3
    obtain ⟨m, ks, xs, ak, ck, rfl, rfl, HS⟩ := hrel
    have hbox := HS.out.box
    obtain ⟨z0, z1, z2, z3, z4, z5, z6, z7, z8, z9, z10, z11, z12, z13, z14, z15⟩ := sixteen hbox
    clear hbox
    by_cases hm : (ks.length : Int) < q.kc
    rotate_left
    · have HKC : Hid (q.kc = (ks.length : Int)) := by have := HS.out.kc; unfold Hid; omega
      have HAH : Hid ((∀ y, y ≠ w.heap.size → (wr.setRow w.heap.size (arX ⟨q, ak, xs.length, ck⟩)).heap[y]? = wr.heap[y]?) ∧ (wr.setRow w.heap.size (arX ⟨q, ak, xs.length, ck⟩)).heap.size = wr.heap.size) := ⟨fun y hy => row_far hy, size_setRow _ _ _⟩
      have HBP2 := hid (row_below HS.out.bel (Nat.le_refl _) (arX ⟨q, ak, xs.length, ck⟩))
      have HBV := hid (row_at (c := arX ⟨q, ak, xs.length, ck⟩) HS.out.res)
      go_upto_region 13 with fail
      clear z0 z1 z2 z3 z4 z5 z6 z7 z8 z9 z10 z11 z12 z13 z14 z15
      refine wp_region_lit ?_
      refine step_loadE rfl rfl rfl HS.out.box rfl ?_
      try simp only [Act.put, List.setIfInBounds_toArray, List.set_cons_zero, List.set_cons_succ]
      refine step_move rfl rfl ?_
      try simp only [Act.put, List.setIfInBounds_toArray, List.set_cons_zero, List.set_cons_succ]
      refine step_storeE (c := arX ⟨q, ak, xs.length, ck⟩) rfl rfl rfl rfl HS.out.res rfl rfl (oneX _) ?_
      try simp only [Act.put]
      obtain ⟨V, hV⟩ : ∃ V, V = wr.setRow w.heap.size (arX ⟨q, ak, xs.length, ck⟩) := ⟨_, rfl⟩
      rw [← hV] at HAH HBP2 HBV ⊢
      clear hV
      go_wp2
      refine bodyPost_ret (v := .tuple #[agX ⟨q, ak, xs.length, ck⟩, .int .i64 ((m : Nat) : Int)]) ((res_row (fn := Tryz.f61) (p := 6) (u := 7) rfl _ _ _ _ rfl HBV.out rfl).trans rfl) rfl ?_
      refine ⟨HBP2.out, .inr ⟨.nd (pl q) ks, ⟨q, ak, xs.length, ck⟩, m, rfl, HS.out.km, HS.out.mn, by rw [HS.out.ps]; simp [rows], isM hd HH.out HKC.out HS.out.gt HS.out.sel, ?_⟩⟩
      have hord := HS.out.ord
      have hag : Agr (fun y => B ≤ y ∧ y < wr.heap.size) (fun y => w.heap.size ≤ y ∧ y < V.heap.size) wr V := ⟨by rw [HAH.out.2]; exact Nat.le_refl _, fun y hy _ => HAH.out.1 y (by omega), fun y hy => ⟨by omega, by rw [HAH.out.2]; exact hy.2⟩⟩
      simp only [Ev]
      exact ⟨trivial, HQ.out, xs, rfl, HS.out.tq.has.2.agr hag, EvL.agr hag ks xs HS.out.tq.has.1⟩
    · go_wp2_with fail
      clear z0 z1 z2 z3 z4 z5 z6 z7 z8 z9 z10 z11 z12 z13 z14 z15
      have hcall := IH.out rs (some ⟨b, off, none⟩) c m (d + 1) w0 wr (by omega) (by omega) HS.out.mn h60 HR.out HRS.out (HB0.out.trans (HS.out.bel.mono hw0))
      rw [show (((d + 1 : Nat)) : Int) = (d : Int) + 1 by omega] at hcall
      refine hcall.mono ?_
      rintro e w5 ⟨hb5, h5⟩
      clear hcall
      have hbox5 := kept HS.out.box hb5
      have hres5 := kept HS.out.res hb5
      have hbel5 := HS.out.bel.trans (hb5.mono HS.out.bel.size)
      rcases h5 with ⟨x, rfl, hno⟩ | ⟨t, x, m', rfl, hm1, hm2, hps, hgt, hev⟩
      · have hal := (Below.refl w5.heap.size w5).alloc (Nat.le_refl _) (EO x.q x.a x.n x.c)
        obtain ⟨W6, hW6⟩ : ∃ W, W = w5.alloc (EO x.q x.a x.n x.c) := ⟨_, rfl⟩
        rw [← hW6] at hal
        have hres := kept hres5 hal
        have hbel := hbel5.trans (hal.mono hbel5.size)
        have HNO := hid (fun (tt : Tr) (xx : List Pl) => no_more (N := NM) (d := d) (r := pl q) (ts := ks) (rest := (rs.drop m).map pl) HS.out.gt hm (fun t x e hg _ _ _ => hno t x e hg) tt xx)
        have HPS := hid HS.out.ps
        have HW6 := hid hW6
        clear hW6 hal hbox5 hres5 hbel5 hb5 hno HS
        go_upto_region 9 with fail
        rw [← HW6.out]
        clear HW6
        have HBP := hid (row_below hbel (Nat.le_refl _) arZ)
        have HBV := hid (row_at (c := arZ) hres)
        go_upto_region 10 with fail
        refine wp_region_lit ?_
        refine step_zeroE rfl rfl ?_
        try simp only [Act.put, List.setIfInBounds_toArray, List.set_cons_zero, List.set_cons_succ]
        refine step_storeE (c := arZ) rfl rfl rfl rfl hres rfl rfl oneZ ?_
        try simp only [Act.put]
        obtain ⟨V, hV⟩ : ∃ V, V = W6.setRow w.heap.size arZ := ⟨_, rfl⟩
        rw [← hV] at HBP HBV ⊢
        clear hV hres hbel
        go_wp2
        refine bodyPost_ret (v := .tuple #[agX ⟨r0, none, 0, 0⟩, .int .i64 (-1)]) ((res_row (fn := Tryz.f61) (p := 6) (u := 7) rfl _ _ _ _ rfl HBV.out rfl).trans rfl) rfl ?_
        exact ⟨HBP.out, .inl ⟨_, rfl, by rw [HPS.out]; exact HNO.out⟩⟩
      · have hpl : pl x.q = t.r := by
          have h := hev
          obtain ⟨r, kk⟩ := t
          simp only [Ev] at h
          exact h.1
        have hal := (Below.refl w5.heap.size w5).alloc (Nat.le_refl _) (EO x.q x.a x.n x.c)
        obtain ⟨W6, hW6⟩ : ∃ W, W = w5.alloc (EO x.q x.a x.n x.c) := ⟨_, rfl⟩
        have hx6 : W6.heap[w5.heap.size]? = some (EO x.q x.a x.n x.c) := by rw [hW6]; exact heap_alloc_new w5 _
        rw [← hW6] at hal
        have HB6 := hid (kept hbox5 hal)
        have HR6 := hid (kept hres5 hal)
        have HL6 := hid (hbel5.trans (hal.mono hbel5.size))
        have HX6 := hid hx6
        have HW6 := hid hW6
        have HA6 := hid hal
        have HB5 := hid hb5
        have HEV := hid hev
        have HGT := hid hgt
        have HPT := hid hps
        have HPL := hid hpl
        clear hW6 hal hx6 hbox5 hres5 hbel5 hb5 hev hgt hps hpl
        have i5 : ¬ ((m' : Nat) : Int) < 0 := by omega
        go_upto_region 9 with fail
        rw [← HW6.out]
        clear HW6
        generalize hXB : w5.heap.size = XB at *
        have HXB := hid hXB
        clear hXB
        have b0 := (sixteen HB6.out).1
        have z0 := (sixteen HX6.out).1
        by_cases hbad : q.kd = 4 ∧ x.q.kd ≠ 3
        · have e4 : (q.kd == 4) = true := by simp [hbad.1]
          have e3 : (x.q.kd != 3) = true := by simp [hbad.2]
          have HNO : Hid (∀ tt xx, (rs.drop k).map pl = rows tt ++ xx → ¬ Gt NM d tt) := by
            unfold Hid
            rw [HS.out.ps]
            exact no_selM HS.out.gt hm hbad.1 HGT.out HPT.out (by rw [← HPL.out]; exact hbad.2)
          have HBP := hid (row_below HL6.out (Nat.le_refl _) arZ)
          have HBV := hid (row_at (c := arZ) HR6.out)
          clear hbad
          go_upto_region 10 with fail
          refine wp_region_lit ?_
          refine step_zeroE rfl rfl ?_
          try simp only [Act.put, List.setIfInBounds_toArray, List.set_cons_zero, List.set_cons_succ]
          refine step_storeE (c := arZ) rfl rfl rfl rfl HR6.out rfl rfl oneZ ?_
          try simp only [Act.put]
          obtain ⟨V, hV⟩ : ∃ V, V = W6.setRow w.heap.size arZ := ⟨_, rfl⟩
          rw [← hV] at HBP HBV ⊢
          clear hV
          go_wp2
          refine bodyPost_ret (v := .tuple #[agX ⟨r0, none, 0, 0⟩, .int .i64 (-1)]) ((res_row (fn := Tryz.f61) (p := 6) (u := 7) rfl _ _ _ _ rfl HBV.out rfl).trans rfl) rfl ?_
          exact ⟨HBP.out, .inl ⟨_, rfl, HNO.out⟩⟩
        · have HSL : Hid (q.kd = 4 → t.r.kd = 3) := fun h => by rw [← HPL.out]; exact Classical.byContradiction fun g => hbad ⟨h, g⟩
          have hbd2 : q.kd ≠ 4 ∨ x.q.kd = 3 := by
            by_cases h : q.kd = 4
            · exact .inr (Classical.byContradiction fun g => hbad ⟨h, g⟩)
            · exact .inl h
          clear hbad
          go_cut [64] from 51 to 65 (fun s64 wx => s64 = .bool false ∧ Hid (W6 = wx))
          case first =>
            rcases hbd2 with h | h
            · have e4 : (q.kd == 4) = false := by simp [h]
              clear h
              go_wp2
              go_meet
              exact ⟨rfl, rfl⟩
            · have e3 : (x.q.kd != 3) = false := by simp [h]
              by_cases h4 : q.kd = 4
              · have e4 : (q.kd == 4) = true := by simp [h4]
                clear h h4
                go_wp2
                go_meet
                exact ⟨rfl, rfl⟩
              · have e4 : (q.kd == 4) = false := by simp [h4]
                clear h h4
                go_wp2
                go_meet
                exact ⟨rfl, rfl⟩
          case rest =>
          obtain ⟨rfl, hw⟩ := hcut
          have hw := hw.out
          subst hw
          clear hbd2 b0 z0
          have hks : ks.length ≤ 60 := by
            have h := congrArg List.length HS.out.ps
            have h2 := rowsL_len ks
            simp only [List.length_map, List.length_drop, List.length_cons, List.length_append] at h
            omega
          have HXL : Hid (xs.length ≤ 60) := by have := HS.out.len; unfold Hid; omega
          obtain ⟨i0, hi, hz0, hz1, hz2⟩ := info_parts infoE
          have hord := HS.out.ord
          have hs1 : B + 1 ≤ wr.heap.size := (Array.getElem?_eq_some_iff.1 HS.out.box).1
          have hs5 := HB5.out.size
          have hs6 : wr.heap.size ≤ W6.heap.size := Nat.le_trans hs5 HA6.out.size
          have HOW : Hid (W6.ownsRow (B + 1) 58 16 (.slice ak xs.length ck) xs.length (flatE xs)) := by
            refine own_below HS.out.tq.row (HB5.out.trans ?_)
            exact HA6.out.mono (by rw [← HXB.out]; exact hs5)
          have H7 : Hid (Below XB w5 (W6.alloc (EO x.q x.a x.n x.c))) := HA6.out.alloc (by rw [← HXB.out]; exact HA6.out.size) _
          have HB7 := hid (kept HB6.out ((Below.refl W6.heap.size W6).alloc (Nat.le_refl _) (EO x.q x.a x.n x.c)))
          have HR7 := hid (kept HR6.out ((Below.refl W6.heap.size W6).alloc (Nat.le_refl _) (EO x.q x.a x.n x.c)))
          have HL7 := hid (HL6.out.alloc HL6.out.size (EO x.q x.a x.n x.c))
          have b15 := (cell16 HB6.out)
          obtain ⟨z0, z1, z2, z3, z4, z5, z6, z7, z8, z9, z10, z11, z12, z13, z14, z15⟩ := sixteen HX6.out
          go_wp2_with (at_builtin; go_loud (refine wpList_append_own_at _ rfl (.tmp 67) (.tmp 69) 56 rfl (B + 1) 58 i0 (.agg #[.int .i64 0, .int .i64 0, .int .i64 0, .string ⟨#[]⟩, .int .i64 0, .slice none 0 0, .int .i64 0, .bool false, .int .i64 0, .bool false, .int .i64 0, .slice none 0 0, .int .i64 0, .slice none 0 0, .int .i64 0, .slice none 0 0]) 16 200 Tryz.underlying56 hi hz0 hz1 hz2 rfl (by decide) (.slice ak xs.length ck) xs.length (flatE xs) (by rfl) (HOW.out.alloc _) ⟨W6.heap.size, 0, none⟩ 1 1 (clE x) rfl rfl ?d1 ?d2 ?d3 ?d4 ?d5 ?_))
          case d1 => exact fun j u h => h
          case d2 => exact fun u hu => (Array.all_eq_true_iff_forall_mem.1 (oneX x)) u (by simpa [clE, cl] using hu)
          case d3 => have := HXL.out; unfold maxLen; omega
          case d4 => have := HXL.out; omega
          case d5 => first | omega | (simp; omega)
          intro v1 w8 hown1 hg1 _ hd1
          obtain ⟨a3, c3, rfl⟩ := own_formQ hown1
          have hlt : ∀ g, (Value.slice ak xs.length ck).ownBlock = some g → B + 1 ≤ g := fun g e => (HOW.out.lt g e).1
          have hb7 : B < (W6.alloc (EO x.q x.a x.n x.c)).heap.size := by simp; omega
          have HB8 : Hid (w8.heap[B]? = some (EO q ak xs.length ck)) := (hg1.block B hb7 (fun e => by have := hlt B e.symm; omega)).trans HB7.out
          have HR8 : Hid (w8.heap[w.heap.size]? = some ZE) := (hg1.block w.heap.size (Nat.lt_trans hord hb7) (fun e => by have := hlt _ e.symm; omega)).trans HR7.out
          have HL8 := hid (HL7.out.grown hg1 HL7.out.size (fun g e => by have := hlt g e; omega))
          have HTQ : Hid (Tq w0 B (ks ++ [t]) (xs ++ [x]) a3 c3 (w8.setCell ⟨B, 15, none⟩ (.slice a3 (xs.length + 1) c3))) := by
            have h5 := HEV.out
            have h7 := H7.out
            rw [← HXB.out] at h5 h7
            exact HS.out.tq.next hs1 HB5.out h5 h7 hg1 hown1 (by simpa using hd1) _
          have HN : Hid (Sk w0 rs k d w q B m' (ks ++ [t]) (xs ++ [x]) a3 c3 (w8.setCell ⟨B, 15, none⟩ (.slice a3 (xs.length + 1) c3))) := by
            refine ⟨by have := HS.out.km; omega, hm2, by simp; omega, by simp [HS.out.len], HTQ.out, ?_, ?_, ?_, hord, ?_, ?_, ?_⟩
            · rw [List.length_append]
              exact set_at HB8.out
            · exact (Below.heap_setCell w8 ⟨B, 15, none⟩ _ _ (by simp only; omega)).trans HR8.out
            · exact HL8.out.setCell (by simp only; omega) _
            · rw [HS.out.ps, HPT.out, rowsL_append]
              simp [rowsL]
            · rw [GtL_append]
              exact ⟨HS.out.gt, by simp only [GtL]; exact ⟨HGT.out, trivial⟩⟩
            · intro h tt htt
              rcases List.mem_append.1 htt with h1 | h1
              · exact HS.out.sel h tt h1
              · rw [List.mem_singleton.1 h1]; exact HSL.out h
          have b15 := cell16 HB8.out
          have f15 := fifteen_frz (o := 15) HB8.out
          clear z0 z1 z2 z3 z4 z5 z6 z7 z8 z9 z10 z11 z12 z13 z14 z15 hown1 hg1 hd1
          go_wp2
          go_roundw
          case rel => exact ⟨m', ks ++ [t], xs ++ [x], a3, c3, rfl, by congr 1; simp, HN⟩
          case measure => simp [intOf]; omega
end Go.Proofs.YtbdlahhejfamhaaGreatDoor.Qry
/- The model takes a tree off a list, whatever the list; its GoodQuery. -/
namespace Go.Proofs.YtbdlahhejfamhaaGreatDoor.Qry
open Go.RowKit

theorem take_all : ∀ D, TakeOkQ D := by
  intro D
  induction D with
  | zero =>
    intro rs a c k d w0 w hD hd hk h60 hr hrs hb0
    obtain rfl : d = 13 := by omega
    by_cases h : k < rs.length
    · refine (take_deep a c k rs.length ((13 : Nat) : Int) w h (by omega)).mono ?_
      rintro e w' ⟨rfl, hb⟩
      exact ⟨hb, .inl ⟨_, rfl, fun t x he => no_deep (by omega) t x _ he⟩⟩
    · obtain rfl : k = rs.length := by omega
      refine (take_end a c rs.length rs.length ((13 : Nat) : Int) w (Nat.le_refl _)).mono ?_
      rintro e w' ⟨rfl, hb⟩
      exact ⟨hb, .inl ⟨_, rfl, by rw [List.drop_length]; exact no_rows⟩⟩
  | succ D ih =>
    intro rs a c k d w0 w hD hd hk h60 hr hrs hb0
    by_cases h : k < rs.length
    rotate_left
    · obtain rfl : k = rs.length := by omega
      refine (take_end a c rs.length rs.length (d : Int) w (Nat.le_refl _)).mono ?_
      rintro e w' ⟨rfl, hb⟩
      exact ⟨hb, .inl ⟨_, rfl, by rw [List.drop_length]; exact no_rows⟩⟩
    by_cases h13 : d = 13
    · subst h13
      refine (take_deep a c k rs.length ((13 : Nat) : Int) w h (by omega)).mono ?_
      rintro e w' ⟨rfl, hb⟩
      exact ⟨hb, .inl ⟨_, rfl, fun t x he => no_deep (by omega) t x _ he⟩⟩
    obtain ⟨b, off, rfl, hbl, hcl, hl⟩ := hr.at2 k h
    by_cases hn : told (pl (rs.getD k r0)) ∧ right (pl (rs.getD k r0)) = true ∧ kidsM (pl (rs.getD k r0))
    · exact take_step D ih rs b off c k d w0 w _ rfl (by omega) (by omega) h h60 hr hrs hb0 hbl hcl hn
    · refine (take_none (rs.getD k r0) b off c k rs.length d w w0 h (by omega) (hrs _ (mem_q h)) hb0 (Nat.lt_of_lt_of_le hbl hb0.size) (hcl.below hb0 hbl) hn).mono ?_
      rintro e w' ⟨rfl, hb⟩
      exact ⟨hb, .inl ⟨_, rfl, by rw [drop_q h]; exact no_nodeM hn⟩⟩

abbrev sixw (x : World) (b : Nat) (u0 u1 u2 u3 u4 u5 u6 u7 u8 u9 u10 u11 u12 u13 u14 u15 : Value) : World := ((((((((((((((((x.setCell ⟨b, 0, none⟩ u0).setCell ⟨b, 1, none⟩ u1).setCell ⟨b, 2, none⟩ u2).setCell ⟨b, 3, none⟩ u3).setCell ⟨b, 4, none⟩ u4).setCell ⟨b, 5, none⟩ u5).setCell ⟨b, 6, none⟩ u6).setCell ⟨b, 7, none⟩ u7).setCell ⟨b, 8, none⟩ u8).setCell ⟨b, 9, none⟩ u9).setCell ⟨b, 10, none⟩ u10).setCell ⟨b, 11, none⟩ u11).setCell ⟨b, 12, none⟩ u12).setCell ⟨b, 13, none⟩ u13).setCell ⟨b, 14, none⟩ u14).setCell ⟨b, 15, none⟩ u15)
theorem agr16 {x : World} {b : Nat} (u0 u1 u2 u3 u4 u5 u6 u7 u8 u9 u10 u11 u12 u13 u14 u15 : Value) : (∀ y, y ≠ b → (sixw x b u0 u1 u2 u3 u4 u5 u6 u7 u8 u9 u10 u11 u12 u13 u14 u15).heap[y]? = x.heap[y]?) ∧ (sixw x b u0 u1 u2 u3 u4 u5 u6 u7 u8 u9 u10 u11 u12 u13 u14 u15).heap.size = x.heap.size := by
  refine ⟨fun y hy => ?_, by simp⟩
  iterate 16 rw [Below.heap_setCell _ _ _ y hy]
/-- What l15Tree leaves: whether it is a tree, and the tree. -/
def TreeR (w0 : World) (rs : List R) (w : World) (e : Ending) (w' : World) : Prop :=
  Below w.heap.size w w' ∧ ∃ (z : E) (b : Bool), e = .returned (.tuple #[agX z, .bool b]) ∧ (b = true ↔ GoodQ (rs.map pl)) ∧
    (b = true → ∃ t, rs.map pl = rows t ∧ Gt NM 1 t ∧ Ev w0 (fun y => w.heap.size ≤ y ∧ y < w'.heap.size) w' t z)

set_option maxHeartbeats 8000000 in
set_option maxRecDepth 100000 in
theorem f30 (rs : List R) (a : Option Addr) (c : Nat) (w0 w : World) (hm : rs.length ≤ maxLen) (hr : HasR w0 a rs) (hrs : ∀ q ∈ rs, Rw w0 q) (hb0 : Below w0.heap.size w0 w) :
    Calls Tryz.prog 30 #[.slice a rs.length c] w (TreeR w0 rs w) := by
  unfold maxLen at hm
  obtain ⟨X, hX⟩ : ∃ X, X = w.alloc ZE := ⟨_, rfl⟩
  have h1 : X.heap[w.heap.size]? = some ZE := by rw [hX]; exact heap_alloc_new w _
  have hbx : Below w.heap.size w X := by rw [hX]; exact (Below.refl _ _).alloc (Nat.le_refl _) _
  have hw0 := hb0.size
  by_cases h60 : (rs.length : Int) > 60
  · have HB := hid (row_below hbx (Nat.le_refl _) arZ)
    have HV := hid (row_at (c := arZ) h1)
    have HN : Hid ¬ GoodQ (rs.map pl) := fun g => by have := g.1; simp at this; omega
    have HX := hid hX
    clear hX hbx hr hrs hb0
    go_enter Tryz.func30, Tryz.ntmps30
    go_upto_region 2 with fail
    rw [← HX.out]
    clear HX
    refine wp_region_lit ?_
    refine step_zeroE rfl rfl ?_
    try simp only [Act.put, List.setIfInBounds_toArray, List.set_cons_zero, List.set_cons_succ]
    refine step_storeE (c := arZ) rfl rfl rfl rfl h1 rfl rfl oneZ ?_
    try simp only [Act.put]
    obtain ⟨V, hV⟩ : ∃ V, V = X.setRow w.heap.size arZ := ⟨_, rfl⟩
    rw [← hV] at HB HV ⊢
    clear hV
    go_wp2
    refine bodyPost_ret (v := .tuple #[agX ⟨r0, none, 0, 0⟩, .bool false]) ((res_row (fn := Tryz.f30) (p := 2) (u := 3) rfl _ _ _ _ rfl HV.out rfl).trans rfl) rfl ?_
    exact ⟨HB.out, _, false, rfl, by simpa using HN.out, fun h => by cases h⟩
  have h60' : rs.length ≤ 60 := by omega
  have HT := hid (take_all 12 rs a c 0 1 w0 X (by omega) (by omega) (Nat.zero_le _) h60' hr hrs (hb0.trans (hbx.mono hw0)))
  have HX := hid hX
  have HX1 := hid h1
  have HBX := hid hbx
  clear hX h1 hbx hr hrs hb0
  go_enter Tryz.func30, Tryz.ntmps30
  go_upto_region 3 with fail
  rw [← HX.out]
  clear HX
  go_wp2_with fail
  refine HT.out.mono ?_
  rintro e w3 ⟨hb3, h3⟩
  clear HT
  have key : ∃ (z : E) (v : Int), e = .returned (.tuple #[agX z, .int .i64 v]) ∧ (v = (rs.length : Int) ↔ GoodQ (rs.map pl)) ∧ (v = (rs.length : Int) → ∃ t, rs.map pl = rows t ∧ Gt NM 1 t ∧ Ev w0 (fun y => X.heap.size ≤ y ∧ y < w3.heap.size) w3 t z) := by
    rcases h3 with ⟨z, rfl, hno⟩ | ⟨t, x, m, rfl, hm1, hm2, hps, hgt, hev⟩
    · refine ⟨z, -1, rfl, ⟨fun h => by omega, fun g => ?_⟩, fun h => by omega⟩
      obtain ⟨t, h, hg⟩ := g.2
      exact absurd hg (hno t [] (by simpa using h))
    · refine ⟨x, (m : Int), rfl, ?_, ?_⟩
      · constructor
        · intro h
          obtain rfl : m = rs.length := by omega
          rw [List.drop_zero, List.drop_length] at hps
          exact ⟨by simpa using h60', t, by simpa using hps, hgt⟩
        · intro g
          obtain ⟨t', h', hg'⟩ := g.2
          obtain ⟨_, h⟩ := rows_one NM NM t t' _ _ _ _ hgt hg' (show rows t ++ (rs.drop m).map pl = rows t' ++ [] by rw [← hps, List.append_nil, ← h', List.drop_zero])
          have := congrArg List.length h
          simp at this
          omega
      · intro h
        obtain rfl : m = rs.length := by omega
        rw [List.drop_zero, List.drop_length] at hps
        exact ⟨t, by simpa using hps, hgt, hev⟩
  obtain ⟨z, v, rfl, hv1, hv2⟩ := key
  clear h3
  have hal := (Below.refl w3.heap.size w3).alloc (Nat.le_refl _) (EO z.q z.a z.n z.c)
  obtain ⟨W4, hW4⟩ : ∃ W, W = w3.alloc (EO z.q z.a z.n z.c) := ⟨_, rfl⟩
  have h4 : W4.heap[w3.heap.size]? = some (EO z.q z.a z.n z.c) := by rw [hW4]; exact heap_alloc_new w3 _
  rw [← hW4] at hal
  have HR4 := kept (kept HX1.out hb3) hal
  have hb4 := (HBX.out.trans (hb3.mono HBX.out.size)).trans (hal.mono (HBX.out.trans (hb3.mono HBX.out.size)).size)
  have HV1 := hid hv1
  have HEV : Hid (v = (rs.length : Int) → ∃ t, rs.map pl = rows t ∧ Gt NM 1 t ∧ Ev w0 (fun y => X.heap.size ≤ y ∧ y < W4.heap.size) W4 t z) := by
    intro h
    obtain ⟨t, e1, e2, e3⟩ := hv2 h
    exact ⟨t, e1, e2, Ev.agr ⟨hal.size, fun y hy hlt => hal.block y hlt, fun y hy => ⟨hy.1, Nat.lt_of_lt_of_le hy.2 hal.size⟩⟩ t z e3⟩
  have hXs : w.heap.size < X.heap.size := (Array.getElem?_eq_some_iff.1 HX1.out).1
  have HW4 := hid hW4
  clear hv1 hv2 hW4 hal hb3 HX1 HBX
  go_upto_region 4 with fail
  rw [← HW4.out]
  clear HW4
  generalize w3.heap.size = B4 at *
  obtain ⟨z0, z1, z2, z3, z4, z5, z6, z7, z8, z9, z10, z11, z12, z13, z14, z15⟩ := sixteen HR4
  have f0 := fifteen_frz (o := 0) HR4
  have f1 := fifteen_frz (o := 1) HR4
  have f2 := fifteen_frz (o := 2) HR4
  have f3 := fifteen_frz (o := 3) HR4
  have f4 := fifteen_frz (o := 4) HR4
  have f5 := fifteen_frz (o := 5) HR4
  have f6 := fifteen_frz (o := 6) HR4
  have f7 := fifteen_frz (o := 7) HR4
  have f8 := fifteen_frz (o := 8) HR4
  have f9 := fifteen_frz (o := 9) HR4
  have f10 := fifteen_frz (o := 10) HR4
  have f11 := fifteen_frz (o := 11) HR4
  have f12 := fifteen_frz (o := 12) HR4
  have f13 := fifteen_frz (o := 13) HR4
  have f14 := fifteen_frz (o := 14) HR4
  have f15 := fifteen_frz (o := 15) HR4
  obtain ⟨y0, y1, y2, y3, y4, y5, y6, y7, y8, y9, y10, y11, y12, y13, y14, y15⟩ := sixteen (set16 HR4 (.int .i64 z.q.kd) (.int .i64 z.q.nu) (.int .i64 z.q.st) (.string z.q.tx) (.int .i64 z.q.op) (.slice z.q.ma z.q.ms.length z.q.mc) (.int .i64 z.q.off) (.bool z.q.fx) (.int .i64 z.q.att) (.bool z.q.bo) (.int .i64 z.q.byy) (.slice z.q.na z.q.ns.length z.q.nc) (.int .i64 z.q.sd) (.slice z.q.ea z.q.es.length z.q.ec) (.int .i64 z.q.kc) (.slice z.a z.n z.c))
  have HBP := hid (below16 hb4 (Nat.le_refl _) (.int .i64 z.q.kd) (.int .i64 z.q.nu) (.int .i64 z.q.st) (.string z.q.tx) (.int .i64 z.q.op) (.slice z.q.ma z.q.ms.length z.q.mc) (.int .i64 z.q.off) (.bool z.q.fx) (.int .i64 z.q.att) (.bool z.q.bo) (.int .i64 z.q.byy) (.slice z.q.na z.q.ns.length z.q.nc) (.int .i64 z.q.sd) (.slice z.q.ea z.q.es.length z.q.ec) (.int .i64 z.q.kc) (.slice z.a z.n z.c))
  have HA := agr16 (x := W4) (b := w.heap.size) (.int .i64 z.q.kd) (.int .i64 z.q.nu) (.int .i64 z.q.st) (.string z.q.tx) (.int .i64 z.q.op) (.slice z.q.ma z.q.ms.length z.q.mc) (.int .i64 z.q.off) (.bool z.q.fx) (.int .i64 z.q.att) (.bool z.q.bo) (.int .i64 z.q.byy) (.slice z.q.na z.q.ns.length z.q.nc) (.int .i64 z.q.sd) (.slice z.q.ea z.q.es.length z.q.ec) (.int .i64 z.q.kc) (.slice z.a z.n z.c)
  obtain ⟨z0, z1, z2, z3, z4, z5, z6, z7, z8, z9, z10, z11, z12, z13, z14, z15⟩ := sixteen h4
  obtain ⟨V, hV⟩ : ∃ V, V = sixw W4 w.heap.size (.int .i64 z.q.kd) (.int .i64 z.q.nu) (.int .i64 z.q.st) (.string z.q.tx) (.int .i64 z.q.op) (.slice z.q.ma z.q.ms.length z.q.mc) (.int .i64 z.q.off) (.bool z.q.fx) (.int .i64 z.q.att) (.bool z.q.bo) (.int .i64 z.q.byy) (.slice z.q.na z.q.ns.length z.q.nc) (.int .i64 z.q.sd) (.slice z.q.ea z.q.es.length z.q.ec) (.int .i64 z.q.kc) (.slice z.a z.n z.c) := ⟨_, rfl⟩
  rw [← hV] at HA
  have HAH := hid HA
  have HBP2 : Hid (Below w.heap.size w V) := by rw [hV]; exact HBP.out
  have hboxV : V.heap[w.heap.size]? = some (EO z.q z.a z.n z.c) := by rw [hV]; exact set16 HR4 (.int .i64 z.q.kd) (.int .i64 z.q.nu) (.int .i64 z.q.st) (.string z.q.tx) (.int .i64 z.q.op) (.slice z.q.ma z.q.ms.length z.q.mc) (.int .i64 z.q.off) (.bool z.q.fx) (.int .i64 z.q.att) (.bool z.q.bo) (.int .i64 z.q.byy) (.slice z.q.na z.q.ns.length z.q.nc) (.int .i64 z.q.sd) (.slice z.q.ea z.q.es.length z.q.ec) (.int .i64 z.q.kc) (.slice z.a z.n z.c)
  have HBV := hid hboxV
  have HE5 : Hid (v = (rs.length : Int) → ∃ t, rs.map pl = rows t ∧ Gt NM 1 t ∧ Ev w0 (fun y => w.heap.size ≤ y ∧ y < V.heap.size) V t z) := by
    intro h
    obtain ⟨t, e1, e2, e3⟩ := HEV.out h
    refine ⟨t, e1, e2, Ev.agr ⟨by rw [HAH.out.2]; exact Nat.le_refl _, fun y hy _ => HAH.out.1 y (by omega), fun y hy => ⟨by omega, by rw [HAH.out.2]; exact hy.2⟩⟩ t z e3⟩
  clear HA HBP hboxV HEV y0 y1 y2 y3 y4 y5 y6 y7 y8 y9 y10 y11 y12 y13 y14 y15 HR4 h4 hb4
  simp only [sixw] at hV
  have HV := hid hV
  clear hV
  have fin : ∀ b : Bool, (b = true ↔ v = (rs.length : Int)) → TreeR w0 rs w (.returned (.tuple #[agX z, .bool b])) V := fun b hb =>
    ⟨HBP2.out, z, b, rfl, hb.trans HV1.out, fun h => HE5.out (hb.1 h)⟩
  have FIN := hid fin
  clear fin HE5 HV1
  by_cases hv : v = (rs.length : Int)
  · have hq : (v == (rs.length : Int)) = true := by simp [hv]
    have HF := hid (FIN.out true ⟨fun _ => hv, fun _ => rfl⟩)
    clear hv FIN
    go_wp2
    rw [← HV.out]
    clear HV z0 z1 z2 z3 z4 z5 z6 z7 z8 z9 z10 z11 z12 z13 z14 z15 f0 f1 f2 f3 f4 f5 f6 f7 f8 f9 f10 f11 f12 f13 f14 f15
    refine bodyPost_ret (v := .tuple #[agX z, .bool true]) ((res_row (fn := Tryz.f30) (p := 2) (u := 3) rfl _ _ _ _ rfl HBV.out rfl).trans rfl) rfl HF.out
  · have hq : (v == (rs.length : Int)) = false := by simp [hv]
    have HF := hid (FIN.out false ⟨fun h => (by cases h), fun h => absurd h hv⟩)
    clear hv FIN
    go_wp2
    rw [← HV.out]
    clear HV z0 z1 z2 z3 z4 z5 z6 z7 z8 z9 z10 z11 z12 z13 z14 z15 f0 f1 f2 f3 f4 f5 f6 f7 f8 f9 f10 f11 f12 f13 f14 f15
    refine bodyPost_ret (v := .tuple #[agX z, .bool false]) ((res_row (fn := Tryz.f30) (p := 2) (u := 3) rfl _ _ _ _ rfl HBV.out rfl).trans rfl) rfl HF.out

end Go.Proofs.YtbdlahhejfamhaaGreatDoor.Qry
