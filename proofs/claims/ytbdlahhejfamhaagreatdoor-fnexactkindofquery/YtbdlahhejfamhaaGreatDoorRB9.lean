/- The model takes a tree off a list: plain facts. -/
import Derived.Test.YtbdlahhejfamhaaGreatDoorRA5
import Derived.Test.YtbdlahhejfamhaaGreatDoorRQmy
import Derived.Test.YtbdlahhejfamhaaGreatDoorRC4
import Derived.Maps.AppendAt
import Derived.Deep.WholeRow
import Derived.Deep.CutRange
namespace Go.Proofs.YtbdlahhejfamhaaGreatDoor.Qry
open Go.RowKit

/-- What the call of l15Take leaves: a tree that is as it should be at this depth, and the place behind it; or there is none. -/
def TkR (w0 : World) (rs : List R) (k d : Nat) (w : World) (e : Ending) (w' : World) : Prop :=
  Below w.heap.size w w' ∧ ((∃ z, e = .returned (.tuple #[agX z, .int .i64 (-1)]) ∧ ∀ t x, (rs.drop k).map pl = rows t ++ x → ¬ Gt NM d t) ∨
    ∃ t x m, e = .returned (.tuple #[agX x, .int .i64 ((m : Nat) : Int)]) ∧ k < m ∧ m ≤ rs.length ∧ (rs.drop k).map pl = rows t ++ (rs.drop m).map pl ∧ Gt NM d t ∧ Ev w0 (fun b => w.heap.size ≤ b ∧ b < w'.heap.size) w' t x)
/-- No tree stands deeper than twelve. -/
theorem no_deep {d : Nat} (hd : 12 < d) : ∀ (t : Tr) (x ps : List Pl), ps = rows t ++ x → ¬ Gt NM d t := by
  rintro ⟨r, ks⟩ x ps _ ⟨_, h, _⟩
  have := h.1
  omega
/-- No tree stands where the node by itself is none. -/
theorem no_nodeM {d : Nat} {q : R} {rest : List Pl} (h : ¬ (told (pl q) ∧ right (pl q) = true ∧ kidsM (pl q))) : ∀ t x, pl q :: rest = rows t ++ x → ¬ Gt NM d t :=
  no_here fun _ _ hn => h ⟨hn.2.1, hn.2.2.1, hn.2.2.2.1⟩
/-- Kids of a range that are no selections. -/
theorem no_selM {d : Nat} {r : Pl} {ts : List Tr} {rest : List Pl} {t0 : Tr} {x0 : List Pl} (hts : GtL NM (d + 1) ts) (hl : (ts.length : Int) < r.kc) (h4 : r.kd = 4) (hg : Gt NM (d + 1) t0) (he : rest = rows t0 ++ x0) (h3 : t0.r.kd ≠ 3) : ∀ t x, r :: (rowsL ts ++ rest) = rows t ++ x → ¬ Gt NM d t :=
  no_more hts hl fun t x e hgt ks hp hn => by
    obtain ⟨rfl, _⟩ := rows_one NM NM t t0 _ _ _ _ hgt hg (by rw [← e, ← he])
    obtain ⟨ys, rfl⟩ := hp
    exact h3 (hn.2.2.2.2 h4 t (by simp))
/-- All kids are there: the tree. -/
theorem isM {d : Nat} {q : R} {ks : List Tr} (hd : d ≤ 12) (hn : told (pl q) ∧ right (pl q) = true ∧ kidsM (pl q)) (hl : q.kc = (ks.length : Int)) (hks : GtL NM (d + 1) ks) (h4 : q.kd = 4 → ∀ k ∈ ks, k.r.kd = 3) : Gt NM d (.nd (pl q) ks) := by
  simp only [Gt]
  exact ⟨hl, ⟨hd, hn.1, hn.2.1, hn.2.2, h4⟩, hks⟩
theorem kids_pos {q : R} (hn : kidsM (pl q)) (h8 : right (pl q) = true) : 0 ≤ q.kc := by
  unfold kidsM at hn
  unfold right at h8
  simp only [pl] at hn h8
  by_cases h1 : q.kd = 1; · simp [h1] at hn; omega
  by_cases h2 : q.kd = 2; · simp [h2] at hn; omega
  by_cases h3 : q.kd = 3; · simp [h3] at hn; omega
  by_cases h4 : q.kd = 4; · simp [h4] at hn; omega
  by_cases h5 : q.kd = 5; · simp [h5] at hn; omega
  by_cases h6 : q.kd = 6; · simp [h6] at hn; omega
  by_cases h7 : q.kd = 7; · simp [h7] at hn; omega
  by_cases h9 : q.kd = 9; · simp [h9] at hn; exact hn
  by_cases he : q.kd = 8
  · simp [he] at h8
    unfold rAgg at h8
    simp only [Bool.and_eq_true, decide_eq_true_iff] at h8
    have := h8.2
    split at this <;> omega
  · simp [h1, h2, h3, h4, h5, h6, h7, he, h9] at hn
end Go.Proofs.YtbdlahhejfamhaaGreatDoor.Qry
/- Boxes of sixteen cells: the model's nodes. -/
namespace Go.Proofs.YtbdlahhejfamhaaGreatDoor.Qry
open Go.RowKit

abbrev ZE : Obj := .cells #[.int .i64 0, .int .i64 0, .int .i64 0, .string ⟨#[]⟩, .int .i64 0, .slice none 0 0, .int .i64 0, .bool false, .int .i64 0, .bool false, .int .i64 0, .slice none 0 0, .int .i64 0, .slice none 0 0, .int .i64 0, .slice none 0 0] 58
theorem sixteen {x : World} {b : Nat} {v0 v1 v2 v3 v4 v5 v6 v7 v8 v9 v10 v11 v12 v13 v14 v15 : Value} {t : TypeId} (h : x.heap[b]? = some (.cells #[v0, v1, v2, v3, v4, v5, v6, v7, v8, v9, v10, v11, v12, v13, v14, v15] t)) : x.cell? ⟨b, 0, none⟩ = some v0 ∧ x.cell? ⟨b, 1, none⟩ = some v1 ∧ x.cell? ⟨b, 2, none⟩ = some v2 ∧ x.cell? ⟨b, 3, none⟩ = some v3 ∧ x.cell? ⟨b, 4, none⟩ = some v4 ∧ x.cell? ⟨b, 5, none⟩ = some v5 ∧ x.cell? ⟨b, 6, none⟩ = some v6 ∧ x.cell? ⟨b, 7, none⟩ = some v7 ∧ x.cell? ⟨b, 8, none⟩ = some v8 ∧ x.cell? ⟨b, 9, none⟩ = some v9 ∧ x.cell? ⟨b, 10, none⟩ = some v10 ∧ x.cell? ⟨b, 11, none⟩ = some v11 ∧ x.cell? ⟨b, 12, none⟩ = some v12 ∧ x.cell? ⟨b, 13, none⟩ = some v13 ∧ x.cell? ⟨b, 14, none⟩ = some v14 ∧ x.cell? ⟨b, 15, none⟩ = some v15 := by
  refine ⟨?_, ?_, ?_, ?_, ?_, ?_, ?_, ?_, ?_, ?_, ?_, ?_, ?_, ?_, ?_, ?_⟩ <;> simp [World.cell?, h]
theorem set16 {x : World} {b : Nat} {v0 v1 v2 v3 v4 v5 v6 v7 v8 v9 v10 v11 v12 v13 v14 v15 : Value} {t : TypeId} (h : x.heap[b]? = some (.cells #[v0, v1, v2, v3, v4, v5, v6, v7, v8, v9, v10, v11, v12, v13, v14, v15] t)) (u0 u1 u2 u3 u4 u5 u6 u7 u8 u9 u10 u11 u12 u13 u14 u15 : Value) : (((((((((((((((((x.setCell ⟨b, 0, none⟩ u0).setCell ⟨b, 1, none⟩ u1).setCell ⟨b, 2, none⟩ u2).setCell ⟨b, 3, none⟩ u3).setCell ⟨b, 4, none⟩ u4).setCell ⟨b, 5, none⟩ u5).setCell ⟨b, 6, none⟩ u6).setCell ⟨b, 7, none⟩ u7).setCell ⟨b, 8, none⟩ u8).setCell ⟨b, 9, none⟩ u9).setCell ⟨b, 10, none⟩ u10).setCell ⟨b, 11, none⟩ u11).setCell ⟨b, 12, none⟩ u12).setCell ⟨b, 13, none⟩ u13).setCell ⟨b, 14, none⟩ u14).setCell ⟨b, 15, none⟩ u15)).heap[b]? = some (.cells #[u0, u1, u2, u3, u4, u5, u6, u7, u8, u9, u10, u11, u12, u13, u14, u15] t) := by
  have h0 : (x.setCell ⟨b, 0, none⟩ u0).heap[b]? = some (.cells #[u0, v1, v2, v3, v4, v5, v6, v7, v8, v9, v10, v11, v12, v13, v14, v15] t) := set_at h
  generalize x.setCell ⟨b, 0, none⟩ u0 = x0 at h0 ⊢
  have h1 : (x0.setCell ⟨b, 1, none⟩ u1).heap[b]? = some (.cells #[u0, u1, v2, v3, v4, v5, v6, v7, v8, v9, v10, v11, v12, v13, v14, v15] t) := set_at h0
  generalize x0.setCell ⟨b, 1, none⟩ u1 = x1 at h1 ⊢
  have h2 : (x1.setCell ⟨b, 2, none⟩ u2).heap[b]? = some (.cells #[u0, u1, u2, v3, v4, v5, v6, v7, v8, v9, v10, v11, v12, v13, v14, v15] t) := set_at h1
  generalize x1.setCell ⟨b, 2, none⟩ u2 = x2 at h2 ⊢
  have h3 : (x2.setCell ⟨b, 3, none⟩ u3).heap[b]? = some (.cells #[u0, u1, u2, u3, v4, v5, v6, v7, v8, v9, v10, v11, v12, v13, v14, v15] t) := set_at h2
  generalize x2.setCell ⟨b, 3, none⟩ u3 = x3 at h3 ⊢
  have h4 : (x3.setCell ⟨b, 4, none⟩ u4).heap[b]? = some (.cells #[u0, u1, u2, u3, u4, v5, v6, v7, v8, v9, v10, v11, v12, v13, v14, v15] t) := set_at h3
  generalize x3.setCell ⟨b, 4, none⟩ u4 = x4 at h4 ⊢
  have h5 : (x4.setCell ⟨b, 5, none⟩ u5).heap[b]? = some (.cells #[u0, u1, u2, u3, u4, u5, v6, v7, v8, v9, v10, v11, v12, v13, v14, v15] t) := set_at h4
  generalize x4.setCell ⟨b, 5, none⟩ u5 = x5 at h5 ⊢
  have h6 : (x5.setCell ⟨b, 6, none⟩ u6).heap[b]? = some (.cells #[u0, u1, u2, u3, u4, u5, u6, v7, v8, v9, v10, v11, v12, v13, v14, v15] t) := set_at h5
  generalize x5.setCell ⟨b, 6, none⟩ u6 = x6 at h6 ⊢
  have h7 : (x6.setCell ⟨b, 7, none⟩ u7).heap[b]? = some (.cells #[u0, u1, u2, u3, u4, u5, u6, u7, v8, v9, v10, v11, v12, v13, v14, v15] t) := set_at h6
  generalize x6.setCell ⟨b, 7, none⟩ u7 = x7 at h7 ⊢
  have h8 : (x7.setCell ⟨b, 8, none⟩ u8).heap[b]? = some (.cells #[u0, u1, u2, u3, u4, u5, u6, u7, u8, v9, v10, v11, v12, v13, v14, v15] t) := set_at h7
  generalize x7.setCell ⟨b, 8, none⟩ u8 = x8 at h8 ⊢
  have h9 : (x8.setCell ⟨b, 9, none⟩ u9).heap[b]? = some (.cells #[u0, u1, u2, u3, u4, u5, u6, u7, u8, u9, v10, v11, v12, v13, v14, v15] t) := set_at h8
  generalize x8.setCell ⟨b, 9, none⟩ u9 = x9 at h9 ⊢
  have h10 : (x9.setCell ⟨b, 10, none⟩ u10).heap[b]? = some (.cells #[u0, u1, u2, u3, u4, u5, u6, u7, u8, u9, u10, v11, v12, v13, v14, v15] t) := set_at h9
  generalize x9.setCell ⟨b, 10, none⟩ u10 = x10 at h10 ⊢
  have h11 : (x10.setCell ⟨b, 11, none⟩ u11).heap[b]? = some (.cells #[u0, u1, u2, u3, u4, u5, u6, u7, u8, u9, u10, u11, v12, v13, v14, v15] t) := set_at h10
  generalize x10.setCell ⟨b, 11, none⟩ u11 = x11 at h11 ⊢
  have h12 : (x11.setCell ⟨b, 12, none⟩ u12).heap[b]? = some (.cells #[u0, u1, u2, u3, u4, u5, u6, u7, u8, u9, u10, u11, u12, v13, v14, v15] t) := set_at h11
  generalize x11.setCell ⟨b, 12, none⟩ u12 = x12 at h12 ⊢
  have h13 : (x12.setCell ⟨b, 13, none⟩ u13).heap[b]? = some (.cells #[u0, u1, u2, u3, u4, u5, u6, u7, u8, u9, u10, u11, u12, u13, v14, v15] t) := set_at h12
  generalize x12.setCell ⟨b, 13, none⟩ u13 = x13 at h13 ⊢
  have h14 : (x13.setCell ⟨b, 14, none⟩ u14).heap[b]? = some (.cells #[u0, u1, u2, u3, u4, u5, u6, u7, u8, u9, u10, u11, u12, u13, u14, v15] t) := set_at h13
  generalize x13.setCell ⟨b, 14, none⟩ u14 = x14 at h14 ⊢
  have h15 : (x14.setCell ⟨b, 15, none⟩ u15).heap[b]? = some (.cells #[u0, u1, u2, u3, u4, u5, u6, u7, u8, u9, u10, u11, u12, u13, u14, u15] t) := set_at h14
  generalize x14.setCell ⟨b, 15, none⟩ u15 = x15 at h15 ⊢
  exact h15
theorem set16_far {x : World} {b b' : Nat} {o : Obj} (h : x.heap[b']? = some o) (hne : b' ≠ b) (u0 u1 u2 u3 u4 u5 u6 u7 u8 u9 u10 u11 u12 u13 u14 u15 : Value) : (((((((((((((((((x.setCell ⟨b, 0, none⟩ u0).setCell ⟨b, 1, none⟩ u1).setCell ⟨b, 2, none⟩ u2).setCell ⟨b, 3, none⟩ u3).setCell ⟨b, 4, none⟩ u4).setCell ⟨b, 5, none⟩ u5).setCell ⟨b, 6, none⟩ u6).setCell ⟨b, 7, none⟩ u7).setCell ⟨b, 8, none⟩ u8).setCell ⟨b, 9, none⟩ u9).setCell ⟨b, 10, none⟩ u10).setCell ⟨b, 11, none⟩ u11).setCell ⟨b, 12, none⟩ u12).setCell ⟨b, 13, none⟩ u13).setCell ⟨b, 14, none⟩ u14).setCell ⟨b, 15, none⟩ u15)).heap[b']? = some o := (set1_far (set1_far (set1_far (set1_far (set1_far (set1_far (set1_far (set1_far (set1_far (set1_far (set1_far (set1_far (set1_far (set1_far (set1_far (set1_far h hne (b := b) (i := 0) u0) hne (b := b) (i := 1) u1) hne (b := b) (i := 2) u2) hne (b := b) (i := 3) u3) hne (b := b) (i := 4) u4) hne (b := b) (i := 5) u5) hne (b := b) (i := 6) u6) hne (b := b) (i := 7) u7) hne (b := b) (i := 8) u8) hne (b := b) (i := 9) u9) hne (b := b) (i := 10) u10) hne (b := b) (i := 11) u11) hne (b := b) (i := 12) u12) hne (b := b) (i := 13) u13) hne (b := b) (i := 14) u14) hne (b := b) (i := 15) u15)
theorem below16 {a x : World} {B b : Nat} (hb : Below B a x) (hB : B ≤ b) (u0 u1 u2 u3 u4 u5 u6 u7 u8 u9 u10 u11 u12 u13 u14 u15 : Value) : Below B a (((((((((((((((((x.setCell ⟨b, 0, none⟩ u0).setCell ⟨b, 1, none⟩ u1).setCell ⟨b, 2, none⟩ u2).setCell ⟨b, 3, none⟩ u3).setCell ⟨b, 4, none⟩ u4).setCell ⟨b, 5, none⟩ u5).setCell ⟨b, 6, none⟩ u6).setCell ⟨b, 7, none⟩ u7).setCell ⟨b, 8, none⟩ u8).setCell ⟨b, 9, none⟩ u9).setCell ⟨b, 10, none⟩ u10).setCell ⟨b, 11, none⟩ u11).setCell ⟨b, 12, none⟩ u12).setCell ⟨b, 13, none⟩ u13).setCell ⟨b, 14, none⟩ u14).setCell ⟨b, 15, none⟩ u15)) := ((((((((((((((((hb.setCell (p := ⟨b, 0, none⟩) hB u0).setCell (p := ⟨b, 1, none⟩) hB u1).setCell (p := ⟨b, 2, none⟩) hB u2).setCell (p := ⟨b, 3, none⟩) hB u3).setCell (p := ⟨b, 4, none⟩) hB u4).setCell (p := ⟨b, 5, none⟩) hB u5).setCell (p := ⟨b, 6, none⟩) hB u6).setCell (p := ⟨b, 7, none⟩) hB u7).setCell (p := ⟨b, 8, none⟩) hB u8).setCell (p := ⟨b, 9, none⟩) hB u9).setCell (p := ⟨b, 10, none⟩) hB u10).setCell (p := ⟨b, 11, none⟩) hB u11).setCell (p := ⟨b, 12, none⟩) hB u12).setCell (p := ⟨b, 13, none⟩) hB u13).setCell (p := ⟨b, 14, none⟩) hB u14).setCell (p := ⟨b, 15, none⟩) hB u15)
theorem bde (q : R) (w : World) : (Instr.build 58 #[(0, .agg #[.int .i64 q.kd, .int .i64 q.nu, .int .i64 q.st, .string q.tx, .int .i64 q.op, .slice q.ma q.ms.length q.mc, .int .i64 q.off, .bool q.fx, .int .i64 q.att, .bool q.bo, .int .i64 q.byy, .slice q.na q.ns.length q.nc, .int .i64 q.sd, .slice q.ea q.es.length q.ec, .int .i64 q.kc])]).run Tryz.prog w = .ok (.agg #[.int .i64 q.kd, .int .i64 q.nu, .int .i64 q.st, .string q.tx, .int .i64 q.op, .slice q.ma q.ms.length q.mc, .int .i64 q.off, .bool q.fx, .int .i64 q.att, .bool q.bo, .int .i64 q.byy, .slice q.na q.ns.length q.nc, .int .i64 q.sd, .slice q.ea q.es.length q.ec, .int .i64 q.kc, .slice none 0 0]) w := by kernel_rfl
theorem bde0 (w : World) : (Instr.build 58 #[]).run Tryz.prog w = .ok (.agg #[.int .i64 0, .int .i64 0, .int .i64 0, .string ⟨#[]⟩, .int .i64 0, .slice none 0 0, .int .i64 0, .bool false, .int .i64 0, .bool false, .int .i64 0, .slice none 0 0, .int .i64 0, .slice none 0 0, .int .i64 0, .slice none 0 0]) w := by kernel_rfl
theorem infoE : (Tryz.prog.info? 58).map (fun i => (i.zero, i.size, i.bytes)) = some (some (.agg #[.int .i64 0, .int .i64 0, .int .i64 0, .string ⟨#[]⟩, .int .i64 0, .slice none 0 0, .int .i64 0, .bool false, .int .i64 0, .bool false, .int .i64 0, .slice none 0 0, .int .i64 0, .slice none 0 0, .int .i64 0, .slice none 0 0]), 16, 200) := by kernel_rfl
end Go.Proofs.YtbdlahhejfamhaaGreatDoor.Qry
/- The model takes a tree off a list: where there is none. -/
namespace Go.Proofs.YtbdlahhejfamhaaGreatDoor.Qry
open Go.RowKit

set_option maxHeartbeats 4000000 in
set_option maxRecDepth 100000 in
theorem take_end (a : Option Addr) (c k n : Nat) (d : Int) (w : World) (hk : n ≤ k) : Calls Tryz.prog 61 #[.slice a n c, .int .i64 k, .int .i64 d] w fun e w' => e = .returned (.tuple #[agX ⟨r0, none, 0, 0⟩, .int .i64 (-1)]) ∧ Below w.heap.size w w' := by
  have i1 : (n : Int) ≤ (k : Int) := by omega
  obtain ⟨X, hX⟩ : ∃ X, X = w.alloc ZE := ⟨_, rfl⟩
  have h1 : X.heap[w.heap.size]? = some ZE := by rw [hX]; exact heap_alloc_new w _
  have hbx : Below w.heap.size w X := by rw [hX]; exact (Below.refl _ _).alloc (Nat.le_refl _) _
  have hbd := bde0
  obtain ⟨z0, z1, z2, z3, z4, z5, z6, z7, z8, z9, z10, z11, z12, z13, z14, z15⟩ := sixteen h1
  have f0 := fifteen_frz (o := 0) h1
  have f1 := fifteen_frz (o := 1) h1
  have f2 := fifteen_frz (o := 2) h1
  have f3 := fifteen_frz (o := 3) h1
  have f4 := fifteen_frz (o := 4) h1
  have f5 := fifteen_frz (o := 5) h1
  have f6 := fifteen_frz (o := 6) h1
  have f7 := fifteen_frz (o := 7) h1
  have f8 := fifteen_frz (o := 8) h1
  have f9 := fifteen_frz (o := 9) h1
  have f10 := fifteen_frz (o := 10) h1
  have f11 := fifteen_frz (o := 11) h1
  have f12 := fifteen_frz (o := 12) h1
  have f13 := fifteen_frz (o := 13) h1
  have f14 := fifteen_frz (o := 14) h1
  have f15 := fifteen_frz (o := 15) h1
  obtain ⟨y0, y1, y2, y3, y4, y5, y6, y7, y8, y9, y10, y11, y12, y13, y14, y15⟩ := sixteen (set16 h1 (.int .i64 0) (.int .i64 0) (.int .i64 0) (.string ⟨#[]⟩) (.int .i64 0) (.slice none 0 0) (.int .i64 0) (.bool false) (.int .i64 0) (.bool false) (.int .i64 0) (.slice none 0 0) (.int .i64 0) (.slice none 0 0) (.int .i64 0) (.slice none 0 0))
  have HBP := hid (below16 hbx (Nat.le_refl _) (.int .i64 0) (.int .i64 0) (.int .i64 0) (.string ⟨#[]⟩) (.int .i64 0) (.slice none 0 0) (.int .i64 0) (.bool false) (.int .i64 0) (.bool false) (.int .i64 0) (.slice none 0 0) (.int .i64 0) (.slice none 0 0) (.int .i64 0) (.slice none 0 0))
  have HX := hid hX
  clear hX h1 hbx
  go_enter Tryz.func61, Tryz.ntmps61
  go_upto_region 1 with fail
  rw [← HX.out]
  go_wp2
  refine bodyPost_ret (v := .tuple #[agX ⟨r0, none, 0, 0⟩, .int .i64 (-1)]) (by rw [results_cell_tmp rfl]; simp [go_sem, r0, y0, y1, y2, y3, y4, y5, y6, y7, y8, y9, y10, y11, y12, y13, y14, y15]; rfl) rfl ?_
  exact ⟨rfl, HBP.out⟩
set_option maxHeartbeats 4000000 in
set_option maxRecDepth 100000 in
theorem take_deep (a : Option Addr) (c k n : Nat) (d : Int) (w : World) (hk : k < n) (hd : 12 < d) : Calls Tryz.prog 61 #[.slice a n c, .int .i64 k, .int .i64 d] w fun e w' => e = .returned (.tuple #[agX ⟨r0, none, 0, 0⟩, .int .i64 (-1)]) ∧ Below w.heap.size w w' := by
  have i1 : ¬ (n : Int) ≤ (k : Int) := by omega
  obtain ⟨X, hX⟩ : ∃ X, X = w.alloc ZE := ⟨_, rfl⟩
  have h1 : X.heap[w.heap.size]? = some ZE := by rw [hX]; exact heap_alloc_new w _
  have hbx : Below w.heap.size w X := by rw [hX]; exact (Below.refl _ _).alloc (Nat.le_refl _) _
  have hbd := bde0
  obtain ⟨z0, z1, z2, z3, z4, z5, z6, z7, z8, z9, z10, z11, z12, z13, z14, z15⟩ := sixteen h1
  have f0 := fifteen_frz (o := 0) h1
  have f1 := fifteen_frz (o := 1) h1
  have f2 := fifteen_frz (o := 2) h1
  have f3 := fifteen_frz (o := 3) h1
  have f4 := fifteen_frz (o := 4) h1
  have f5 := fifteen_frz (o := 5) h1
  have f6 := fifteen_frz (o := 6) h1
  have f7 := fifteen_frz (o := 7) h1
  have f8 := fifteen_frz (o := 8) h1
  have f9 := fifteen_frz (o := 9) h1
  have f10 := fifteen_frz (o := 10) h1
  have f11 := fifteen_frz (o := 11) h1
  have f12 := fifteen_frz (o := 12) h1
  have f13 := fifteen_frz (o := 13) h1
  have f14 := fifteen_frz (o := 14) h1
  have f15 := fifteen_frz (o := 15) h1
  obtain ⟨y0, y1, y2, y3, y4, y5, y6, y7, y8, y9, y10, y11, y12, y13, y14, y15⟩ := sixteen (set16 h1 (.int .i64 0) (.int .i64 0) (.int .i64 0) (.string ⟨#[]⟩) (.int .i64 0) (.slice none 0 0) (.int .i64 0) (.bool false) (.int .i64 0) (.bool false) (.int .i64 0) (.slice none 0 0) (.int .i64 0) (.slice none 0 0) (.int .i64 0) (.slice none 0 0))
  have HBP := hid (below16 hbx (Nat.le_refl _) (.int .i64 0) (.int .i64 0) (.int .i64 0) (.string ⟨#[]⟩) (.int .i64 0) (.slice none 0 0) (.int .i64 0) (.bool false) (.int .i64 0) (.bool false) (.int .i64 0) (.slice none 0 0) (.int .i64 0) (.slice none 0 0) (.int .i64 0) (.slice none 0 0))
  have HX := hid hX
  clear hX h1 hbx
  go_enter Tryz.func61, Tryz.ntmps61
  go_upto_region 1 with fail
  rw [← HX.out]
  go_wp2
  refine bodyPost_ret (v := .tuple #[agX ⟨r0, none, 0, 0⟩, .int .i64 (-1)]) (by rw [results_cell_tmp rfl]; simp [go_sem, r0, y0, y1, y2, y3, y4, y5, y6, y7, y8, y9, y10, y11, y12, y13, y14, y15]; rfl) rfl ?_
  exact ⟨rfl, HBP.out⟩
end Go.Proofs.YtbdlahhejfamhaaGreatDoor.Qry
/- The model takes a tree off a list: the main way. -/
namespace Go.Proofs.YtbdlahhejfamhaaGreatDoor.Qry
open Go.RowKit

/-- The kids that were taken, in the world wr; the node's box is at B. -/
structure Tq (w0 : World) (B : Nat) (ks : List Tr) (xs : List E) (ak : Option Addr) (ck : Nat) (wr : World) : Prop where
  row : wr.ownsRow (B + 1) 58 16 (.slice ak xs.length ck) xs.length (flatE xs)
  ev : EvL w0 (fun b => B < b ∧ b < wr.heap.size ∧ (Value.slice ak xs.length ck).ownBlock ≠ some b) wr ks xs
theorem Tq.has {w0 wr : World} {B ck : Nat} {ks : List Tr} {xs : List E} {ak : Option Addr} (h : Tq w0 B ks xs ak ck wr) : EvL w0 (fun b => B ≤ b ∧ b < wr.heap.size) wr ks xs ∧ HasE (fun b => B ≤ b ∧ b < wr.heap.size) wr ak xs :=
  Ts.has (W1 := wr) ⟨Below.refl _ _, h.row, h.ev⟩
theorem Tq.next {w0 wr w5 w7 w8 : World} {B ck c3 : Nat} {ks : List Tr} {xs : List E} {ak a3 : Option Addr} {t : Tr} {x : E} (h : Tq w0 B ks xs ak ck wr) (hs : B + 1 ≤ wr.heap.size)
    (hb : Below wr.heap.size wr w5) (hev : Ev w0 (fun b => wr.heap.size ≤ b ∧ b < w5.heap.size) w5 t x) (h7 : Below w5.heap.size w5 w7) (hg : w7.grownBy w8 (Value.slice ak xs.length ck).ownBlock)
    (ho : w8.ownsRow (B + 1) 58 16 (.slice a3 (xs.length + 1) c3) (xs.length + 1) (flatE xs ++ clE x)) (hd : (Value.slice a3 (xs.length + 1) c3).ownBlock = (Value.slice ak xs.length ck).ownBlock ∨ (Value.slice a3 (xs.length + 1) c3).ownBlock = some w7.heap.size) (v : Value) :
    Tq w0 B (ks ++ [t]) (xs ++ [x]) a3 c3 (w8.setCell ⟨B, 15, none⟩ v) := by
  have hlt : ∀ g, (Value.slice ak xs.length ck).ownBlock = some g → B + 1 ≤ g ∧ g < wr.heap.size := fun g e => h.row.lt g e
  have hs5 := hb.size
  have hs7 := h7.size
  have hs8 := hg.size
  have hlen : (xs ++ [x]).length = xs.length + 1 := by simp
  have hss : (w8.setCell ⟨B, 15, none⟩ v).heap.size = w8.heap.size := by simp
  have hset : ∀ y, y ≠ B → (w8.setCell ⟨B, 15, none⟩ v).heap[y]? = w8.heap[y]? := fun y hy => Below.heap_setCell w8 ⟨B, 15, none⟩ v y hy
  refine ⟨?_, ?_⟩
  · rw [hlen, flatE_snoc]
    rcases ho.2 with ⟨h1, h2⟩ | ⟨g, cap, cur, h1, h2, h3', h4⟩
    · exact absurd h2 (by omega)
    · exact ⟨ho.1, .inr ⟨g, cap, cur, h1, h2, (hset g (by omega)).trans h3', h4⟩⟩
  · rw [hlen]
    refine EvL.snoc ?_ ks xs ?_
    · refine Ev.agr (S := fun b => wr.heap.size ≤ b ∧ b < w5.heap.size) ⟨by omega, fun y hb1 hb2 => ?_, fun y hb1 => ⟨by omega, by omega, ?_⟩⟩ t x hev
      · rw [hset y (by omega)]
        refine (hg.block y (by omega) (fun e => ?_)).trans (h7.block y hb2)
        have := hlt y e.symm; omega
      · intro e
        rcases hd with hd | hd
        · rw [hd] at e; have := hlt y e; omega
        · rw [hd] at e; simp at e; omega
    · refine EvL.agr (S := fun b => B < b ∧ b < wr.heap.size ∧ (Value.slice ak xs.length ck).ownBlock ≠ some b) ⟨by omega, fun y hb1 hb2 => ?_, fun y hb1 => ⟨hb1.1, by omega, ?_⟩⟩ ks xs h.ev
      · rw [hset y (by omega)]
        exact (hg.block y (by omega) (fun e => hb1.2.2 e.symm)).trans ((h7.block y (by omega)).trans (hb.block y hb2))
      · intro e
        rcases hd with hd | hd
        · rw [hd] at e; exact hb1.2.2 e
        · rw [hd] at e; simp at e; omega
def TakeOkQ (D : Nat) : Prop := ∀ (rs : List R) (a : Option Addr) (c k d : Nat) (w0 w : World), 13 ≤ d + D → d ≤ 13 → k ≤ rs.length → rs.length ≤ 60 → HasR w0 a rs → (∀ q ∈ rs, Rw w0 q) → Below w0.heap.size w0 w →
  Calls Tryz.prog 61 #[.slice a rs.length c, .int .i64 k, .int .i64 d] w (TkR w0 rs k d w)
theorem drop_q {rs : List R} {k : Nat} (h : k < rs.length) : (rs.drop k).map pl = pl (rs.getD k r0) :: (rs.drop (k + 1)).map pl := by
  have e : rs.getD k r0 = rs[k] := by simp [List.getD_eq_getElem?_getD, h]
  rw [e, List.drop_eq_getElem_cons h, List.map_cons]
theorem mem_q {rs : List R} {k : Nat} (h : k < rs.length) : rs.getD k r0 ∈ rs := by simp [List.getD_eq_getElem?_getD, h]
abbrev EO (q : R) (ak : Option Addr) (n ck : Nat) : Obj := .cells #[.int .i64 q.kd, .int .i64 q.nu, .int .i64 q.st, .string q.tx, .int .i64 q.op, .slice q.ma q.ms.length q.mc, .int .i64 q.off, .bool q.fx, .int .i64 q.att, .bool q.bo, .int .i64 q.byy, .slice q.na q.ns.length q.nc, .int .i64 q.sd, .slice q.ea q.es.length q.ec, .int .i64 q.kc, .slice ak n ck] 58
theorem sixteen_new (w : World) (x : E) : ∀ j u, (clE x)[j]? = some u → (w.alloc (EO x.q x.a x.n x.c)).cell? ((⟨w.heap.size, 0, none⟩ : Addr).add j) = some u := by
  intro j u hj
  have h := heap_alloc_new w (EO x.q x.a x.n x.c)
  have hl : j < 16 := by
    have := (List.getElem?_eq_some_iff.1 hj).1
    rw [clE_len] at this; exact this
  have ha : ((⟨w.heap.size, 0, none⟩ : Addr).add j) = ⟨w.heap.size, j, none⟩ := by
    by_cases h0 : j = 0
    · subst h0; simp [Addr.add]
    · simp [Addr.add, h0]
  rw [ha]
  simp only [World.cell?, h, Option.isSome_none, Bool.false_eq_true, if_false]
  rw [← hj, List.getElem?_toArray]
  rfl
set_option maxHeartbeats 8000000 in
set_option maxRecDepth 100000 in
theorem take_none (q : R) (b off c k n d : Nat) (w w0 : World) (hk : k < n) (hd : d ≤ 12) (hrw : Rw w0 q) (hb0 : Below w0.heap.size w0 w) (hbl : b < w.heap.size) (hcl : Cells w b (off + k * 15) q) (h : ¬ (told (pl q) ∧ right (pl q) = true ∧ kidsM (pl q))) :
    Calls Tryz.prog 61 #[.slice (some ⟨b, off, none⟩) n c, .int .i64 k, .int .i64 d] w fun e w' => e = .returned (.tuple #[agX ⟨r0, none, 0, 0⟩, .int .i64 (-1)]) ∧ Below w.heap.size w w' := by
  have i1 : ¬ (k : Int) ≥ (n : Int) := by omega
  have i2 : ¬ (d : Int) > 12 := by omega
  have i3 : (k : Int) < (n : Int) := by omega
  obtain ⟨X, hX⟩ : ∃ X, X = w.alloc ZE := ⟨_, rfl⟩
  have h1 : X.heap[w.heap.size]? = some ZE := by rw [hX]; exact heap_alloc_new w _
  have hbx : Below w.heap.size w X := by rw [hX]; exact (Below.refl _ _).alloc (Nat.le_refl _) _
  have hbx0 : Below w.heap.size w X := hbx
  have hbd := bde0
  obtain ⟨c0, c1, c2, c3, c4, c5, c6, c7, c8, c9, c10, c11, c12, c13, c14⟩ := (hcl.below hbx hbl).all
  have HND := hid (f101 q X ((hrw.at_ hb0).below hbx) hrw.ft hrw.sm)
  have HX1 := hid h1
  have HBX := hid hbx
  have HH := hid h
  have HX := hid hX
  clear hX h1 hbx hbx0 h hrw hb0 hcl
  go_enter Tryz.func61, Tryz.ntmps61
  go_upto_region 1 with fail
  rw [← HX.out]
  go_wp2_with fail
  refine HND.out.mono ?_
  rintro e w2 ⟨⟨bb, rfl, hbb⟩, hb2⟩
  cases bb
  rotate_left
  · exact absurd (hbb.1 rfl) HH.out
  have h2 := kept HX1.out hb2
  have hbx2 := HBX.out.trans (hb2.mono HBX.out.size)
  clear hb2 hbb HND c0 c1 c2 c3 c4 c5 c6 c7 c8 c9 c10 c11 c12 c13 c14
  obtain ⟨z0, z1, z2, z3, z4, z5, z6, z7, z8, z9, z10, z11, z12, z13, z14, z15⟩ := sixteen h2
  have f0 := fifteen_frz (o := 0) h2
  have f1 := fifteen_frz (o := 1) h2
  have f2 := fifteen_frz (o := 2) h2
  have f3 := fifteen_frz (o := 3) h2
  have f4 := fifteen_frz (o := 4) h2
  have f5 := fifteen_frz (o := 5) h2
  have f6 := fifteen_frz (o := 6) h2
  have f7 := fifteen_frz (o := 7) h2
  have f8 := fifteen_frz (o := 8) h2
  have f9 := fifteen_frz (o := 9) h2
  have f10 := fifteen_frz (o := 10) h2
  have f11 := fifteen_frz (o := 11) h2
  have f12 := fifteen_frz (o := 12) h2
  have f13 := fifteen_frz (o := 13) h2
  have f14 := fifteen_frz (o := 14) h2
  have f15 := fifteen_frz (o := 15) h2
  obtain ⟨y0, y1, y2, y3, y4, y5, y6, y7, y8, y9, y10, y11, y12, y13, y14, y15⟩ := sixteen (set16 h2 (.int .i64 0) (.int .i64 0) (.int .i64 0) (.string ⟨#[]⟩) (.int .i64 0) (.slice none 0 0) (.int .i64 0) (.bool false) (.int .i64 0) (.bool false) (.int .i64 0) (.slice none 0 0) (.int .i64 0) (.slice none 0 0) (.int .i64 0) (.slice none 0 0))
  have HBP := hid (below16 hbx2 (Nat.le_refl _) (.int .i64 0) (.int .i64 0) (.int .i64 0) (.string ⟨#[]⟩) (.int .i64 0) (.slice none 0 0) (.int .i64 0) (.bool false) (.int .i64 0) (.bool false) (.int .i64 0) (.slice none 0 0) (.int .i64 0) (.slice none 0 0) (.int .i64 0) (.slice none 0 0))
  clear h2 hbx2
  go_wp2
  refine bodyPost_ret (v := .tuple #[agX ⟨r0, none, 0, 0⟩, .int .i64 (-1)]) (by rw [results_cell_tmp rfl]; simp [go_sem, r0, y0, y1, y2, y3, y4, y5, y6, y7, y8, y9, y10, y11, y12, y13, y14, y15]; rfl) rfl ?_
  exact ⟨rfl, HBP.out⟩
end Go.Proofs.YtbdlahhejfamhaaGreatDoor.Qry
/- Whole nodes of the model read and written in one step. -/
namespace Go.Proofs.YtbdlahhejfamhaaGreatDoor.Qry
open Go.RowKit

abbrev arX (x : E) : Array Value := #[.int .i64 x.q.kd, .int .i64 x.q.nu, .int .i64 x.q.st, .string x.q.tx, .int .i64 x.q.op, .slice x.q.ma x.q.ms.length x.q.mc, .int .i64 x.q.off, .bool x.q.fx, .int .i64 x.q.att, .bool x.q.bo, .int .i64 x.q.byy, .slice x.q.na x.q.ns.length x.q.nc, .int .i64 x.q.sd, .slice x.q.ea x.q.es.length x.q.ec, .int .i64 x.q.kc, .slice x.a x.n x.c]
theorem EO_ar (x : E) : EO x.q x.a x.n x.c = .cells (arX x) 58 := rfl
abbrev arZ : Array Value := #[.int .i64 0, .int .i64 0, .int .i64 0, .string ⟨#[]⟩, .int .i64 0, .slice none 0 0, .int .i64 0, .bool false, .int .i64 0, .bool false, .int .i64 0, .slice none 0 0, .int .i64 0, .slice none 0 0, .int .i64 0, .slice none 0 0]
theorem sizE : (Tryz.prog.info? 58).map (·.size) = some 16 := by kernel_rfl
theorem loadE {w : World} {b : Nat} {c : Array Value} (hb : w.heap[b]? = some (.cells c 58)) (hc : c.size = 16) : (loadVar 58 ⟨b, 0, none⟩).run Tryz.prog w = .ok (.agg c) w := by
  exact run_loadVar_row w b _ _ c (0, 0) _ hb Tryz.underlying58 rfl (by rw [sizE, hc])
theorem storeE {w : World} {b : Nat} {old c : Array Value} (hb : w.heap[b]? = some (.cells old 58)) (ho : old.size = 16) (hc : c.size = 16) (h1 : c.all (·.oneCell') = true) : (storeVar 58 ⟨b, 0, none⟩ (.agg c)).run Tryz.prog w = .ok () (w.setRow b c) :=
  run_storeVar_row w b _ _ old c hb (by rw [sizE, hc]) (by rw [ho, hc]) h1
variable {ops : Array Oper} {Q : Exit → Act → World → Prop} {rest : List Oper} {a : Act} {w : World} {o : Oper}
theorem step_move {p : Operand} (hg : o.guard = none) (ho : o.op = .move p) (h : wpList Tryz.prog ops Q rest (a.put o.dst (a.eval p)) w) : wpList Tryz.prog ops Q (o :: rest) a w := by
  refine wpList_plain hg (fun K hK => ?_)
  unfold Oper.wp
  have : (execOp a.eval o).run Tryz.prog w = .ok (.value (a.eval p)) w := by unfold execOp; simp only [ho]; rfl
  rw [this]
  exact hK _ _ h
theorem step_loadE {p : Operand} {b : Nat} {c : Array Value} (hg : o.guard = none) (ho : o.op = .load 58 p) (hp : a.eval p = .pointer (some ⟨b, 0, none⟩)) (hb : w.heap[b]? = some (.cells c 58)) (hc : c.size = 16) (h : wpList Tryz.prog ops Q rest (a.put o.dst (.agg c)) w) : wpList Tryz.prog ops Q (o :: rest) a w := by
  refine wpList_plain hg (fun K hK => ?_)
  unfold Oper.wp
  have : (execOp a.eval o).run Tryz.prog w = .ok (.value (.agg c)) w := by
    unfold execOp
    simp only [ho, hp, Instr.loadAt, Instr.sureAddr, Sem.run_bind, Sem.run_pure, Result.andThen, loadE hb hc]
  rw [this]
  exact hK _ _ h
theorem step_storeE {p v : Operand} {b : Nat} {old c : Array Value} (hg : o.guard = none) (ho : o.op = .store 58 p v) (hp : a.eval p = .pointer (some ⟨b, 0, none⟩)) (hv : a.eval v = .agg c) (hb : w.heap[b]? = some (.cells old 58)) (hs : old.size = 16) (hc : c.size = 16) (h1 : c.all (·.oneCell') = true) (h : wpList Tryz.prog ops Q rest (a.put o.dst undef) (w.setRow b c)) : wpList Tryz.prog ops Q (o :: rest) a w := by
  refine wpList_plain hg (fun K hK => ?_)
  unfold Oper.wp
  have : (execOp a.eval o).run Tryz.prog w = .ok .skip (w.setRow b c) := by
    unfold execOp
    simp only [ho, hp, hv, Instr.storeAt, Instr.sureAddr, Sem.run_bind, Sem.run_pure, Result.andThen, storeE hb hs hc h1]
  rw [this]
  exact hK _ _ h
theorem step_zeroE (hg : o.guard = none) (ho : o.op = .build 58 #[]) (h : wpList Tryz.prog ops Q rest (a.put o.dst (.agg arZ)) w) : wpList Tryz.prog ops Q (o :: rest) a w := by
  refine wpList_plain hg (fun K hK => ?_)
  unfold Oper.wp
  have : (execOp a.eval o).run Tryz.prog w = .ok (.value (.agg arZ)) w := by
    unfold execOp
    have := bde0 w
    simp only [ho, Sem.run_bind, Result.andThen]
    simp [this]
  rw [this]
  exact hK _ _ h
theorem step_allocE (hg : o.guard = none) (ho : o.op = .alloc 58) (h : wpList Tryz.prog ops Q rest (a.put o.dst (.pointer (some ⟨w.heap.size, 0, none⟩))) (w.alloc ZE)) : wpList Tryz.prog ops Q (o :: rest) a w := by
  refine wpList_plain hg (fun K hK => ?_)
  unfold Oper.wp
  have : (execOp a.eval o).run Tryz.prog w = .ok (.value (.pointer (some ⟨w.heap.size, 0, none⟩))) (w.alloc ZE) := by
    unfold execOp
    have hz : ∀ w, (zeroValue 58).run Tryz.prog w = .ok (.agg arZ) w := (zero_of_info (n := 16) (by kernel_rfl)).1
    simp only [ho, Sem.run_bind, Instr.alloc, hz, Result.andThen]
    rfl
  rw [this]
  exact hK _ _ h
theorem res_row {fn : Func} {p u : Tmp} (h : fn.results = #[.cell p 58, .tmp u]) (tmps : Array Value) (w : World) (b : Nat) (c : Array Value) (hp : tmps.getD p undef = .pointer (some ⟨b, 0, none⟩)) (hb : w.heap[b]? = some (.cells c 58)) (hc : c.size = 16) : (results fn tmps).run Tryz.prog w = .ok (.tuple #[.agg c, tmps.getD u undef]) w := by
  rw [results_cell_tmp h, hp]
  have : (asAddr (.pointer (some ⟨b, 0, none⟩))).run Tryz.prog w = .ok ⟨b, 0, none⟩ w := rfl
  rw [this]
  simp only [Result.andThen, loadE hb hc]
/-- The world behind a whole row's store. -/
theorem row_at {w : World} {b : Nat} {old c : Array Value} (hb : w.heap[b]? = some (.cells old 58)) : (w.setRow b c).heap[b]? = some (.cells c 58) := setRow_heap w b old c _ _ hb
theorem row_far {w : World} {b y : Nat} {c : Array Value} (h : y ≠ b) : (w.setRow b c).heap[y]? = w.heap[y]? := setRow_other w b y c h
theorem row_below {B g : Nat} {w0 w : World} (hb : Below B w0 w) (hBg : B ≤ g) (c : Array Value) : Below B w0 (w.setRow g c) := hb.trans ⟨rfl, rfl, rfl, by simp [World.setRow], fun k hk => setRow_other w g k c (by omega)⟩
theorem oneX (x : E) : (arX x).all (·.oneCell') = true := by simp [Value.oneCell']
theorem oneZ : arZ.all (·.oneCell') = true := by simp [Value.oneCell']
end Go.Proofs.YtbdlahhejfamhaaGreatDoor.Qry
