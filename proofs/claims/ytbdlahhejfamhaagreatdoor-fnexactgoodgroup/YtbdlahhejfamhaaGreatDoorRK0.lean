/- The kinds of questions, in plain words. -/
import Derived.Test.YtbdlahhejfamhaaGreatDoorRA7
import Derived.Test.YtbdlahhejfamhaaGreatDoorRC0
namespace Go.Proofs.YtbdlahhejfamhaaGreatDoor.Qry
open Go.RowKit

/-- None, a number, a text, a vector, a range. -/
inductive K where
  | e | n | t | v | r
deriving DecidableEq
def K.l : K → List UInt8
  | .e => [] | .n => [110, 117, 109, 98, 101, 114] | .t => [116, 101, 120, 116] | .v => [118, 101, 99, 116, 111, 114] | .r => [114, 97, 110, 103, 101]
def K.s (k : K) : ByteArray := ⟨k.l.toArray⟩
theorem K.inj : ∀ {a b : K}, a.s = b.s → a = b := by
  intro a b h
  cases a <;> cases b <;> first | rfl | exact absurd h (by decide)
theorem map_inj : ∀ {a b : List K}, a.map K.s = b.map K.s → a = b
  | [], [], _ => rfl
  | [], _ :: _, h => by simp at h
  | _ :: _, [], h => by simp at h
  | x :: a, y :: b, h => by
    simp only [List.map_cons, List.cons.injEq] at h
    rw [K.inj h.1, map_inj h.2]
def K.val : K → Bool
  | .v => true | .n => true | _ => false
def opK (r : Pl) (a b : K) : K :=
  if a.val = false ∨ b.val = false then .e else if a = .v ∧ b = .v then .v else if r.byy ≠ 0 ∨ 12 ≤ r.op then .e else if a = .v ∨ b = .v then .v else if 6 ≤ r.op ∧ r.bo = false then .e else .n
def aggK (r : Pl) (ks : List K) : K := if ks = (if 6 ≤ r.op then [.n, .v] else [.v]) then .v else .e
abbrev nTime : ByteArray := ⟨#[116, 105, 109, 101]⟩
abbrev nScalar : ByteArray := ⟨#[115, 99, 97, 108, 97, 114]⟩
abbrev nAbs : ByteArray := ⟨#[97, 98, 115]⟩
abbrev nAbsent : ByteArray := ⟨#[97, 98, 115, 101, 110, 116]⟩
abbrev nStamp : ByteArray := ⟨#[116, 105, 109, 101, 115, 116, 97, 109, 112]⟩
abbrev nClamp : ByteArray := ⟨#[99, 108, 97, 109, 112]⟩
abbrev nHist : ByteArray := ⟨#[104, 105, 115, 116, 95, 113, 117, 97, 110, 116, 105, 108, 101]⟩
abbrev nJoin : ByteArray := ⟨#[108, 97, 98, 101, 108, 95, 106, 111, 105, 110]⟩
abbrev nSet : ByteArray := ⟨#[108, 97, 98, 101, 108, 95, 115, 101, 116]⟩
abbrev nPredict : ByteArray := ⟨#[112, 114, 101, 100, 105, 99, 116]⟩
abbrev nQuant : ByteArray := ⟨#[113, 117, 97, 110, 116, 105, 108, 101, 95, 111, 118, 101, 114]⟩
abbrev nVector : ByteArray := ⟨#[118, 101, 99, 116, 111, 114]⟩
/-- What a function takes: these kinds, and 'more' of the last one. -/
def takesK (s : ByteArray) : List K :=
  if s = nTime then [] else if s = nScalar ∨ s = nAbs ∨ s = nAbsent ∨ s = nStamp then [.v] else if s = nClamp then [.v, .n, .n] else if s = nHist then [.n, .v] else if s = nJoin then [.v, .t, .t, .t] else if s = nSet then [.v, .t, .t, .t, .t] else if s = nPredict then [.r, .n] else if s = nQuant then [.n, .r] else if s = nVector then [.n] else [.r]
def givesK (s : ByteArray) : K := if s = nTime ∨ s = nScalar then .n else .v
def moreK (s : ByteArray) : Bool := decide (s = nJoin)
def padL {α : Type} (l : List α) (more : Bool) (n : Nat) (d : α) : List α := if more then l ++ List.replicate (n - l.length) d else l
def callK (s : ByteArray) (ks : List K) : K := if padL (takesK s) (moreK s) ks.length .t = ks then givesK s else .e
def kdq (r : Pl) (ks : List K) : K :=
  if r.kd = 1 then .n else if r.kd = 2 then .t else if r.kd = 3 then .v else if r.kd = 4 then .r
  else if r.kd = 5 then (if (ks.getD 0 .e).val then .r else .e) else if r.kd = 6 then (if (ks.getD 0 .e).val then ks.getD 0 .e else .e)
  else if r.kd = 7 then opK r (ks.getD 0 .e) (ks.getD 1 .e) else if r.kd = 8 then aggK r ks else callK r.tx ks
mutual
/-- The kind of a tree. -/
def kdT : Tr → K
  | .nd r ks => kdq r (kdL ks)
def kdL : List Tr → List K
  | [] => []
  | t :: ts => kdT t :: kdL ts
end
theorem kdL_map : ∀ ts : List Tr, kdL ts = ts.map kdT
  | [] => rfl
  | t :: ts => by rw [kdL, kdL_map ts]; rfl
theorem kdL_len (ts : List Tr) : (kdL ts).length = ts.length := by rw [kdL_map, List.length_map]
/-- What the table says of each function. -/
structure FnK (r : Cs) : Prop where
  asc : Asc ⟨r.2.1.toArray⟩
  tk : fld ⟨r.2.1.toArray⟩ = (takesK (nmC r)).map K.s
  gv : (⟨r.2.2.1.toArray⟩ : ByteArray) = (givesK (nmC r)).s
  mr : r.2.2.2 = moreK (nmC r)
theorem fnK_all : ∀ r ∈ rowFn, FnK r := by
  intro r hr
  simp only [rowFn, List.mem_cons, List.not_mem_nil, or_false] at hr
  rcases hr with rfl | rfl | rfl | rfl | rfl | rfl | rfl | rfl | rfl | rfl | rfl | rfl | rfl | rfl | rfl | rfl | rfl | rfl | rfl | rfl | rfl | rfl | rfl <;>
    exact ⟨asc_of (by decide) (by decide), by decide, by decide, by decide⟩
structure AgK (k : Nat) (r : Cs) : Prop where
  asc : Asc ⟨r.2.1.toArray⟩
  tk : fld ⟨r.2.1.toArray⟩ = (if 6 ≤ k then [K.n, .v] else [K.v]).map K.s
  gv : (⟨r.2.2.1.toArray⟩ : ByteArray) = K.s .v
  mr : r.2.2.2 = false
theorem agK_all : ∀ k, 1 ≤ k → k ≤ 8 → AgK k (rowAg.getD k cs0) := by
  intro k h1 h8
  match k, h1, h8 with
  | 1, _, _ => exact ⟨asc_of (by decide) (by decide), by decide, by decide, by decide⟩
  | 2, _, _ => exact ⟨asc_of (by decide) (by decide), by decide, by decide, by decide⟩
  | 3, _, _ => exact ⟨asc_of (by decide) (by decide), by decide, by decide, by decide⟩
  | 4, _, _ => exact ⟨asc_of (by decide) (by decide), by decide, by decide, by decide⟩
  | 5, _, _ => exact ⟨asc_of (by decide) (by decide), by decide, by decide, by decide⟩
  | 6, _, _ => exact ⟨asc_of (by decide) (by decide), by decide, by decide, by decide⟩
  | 7, _, _ => exact ⟨asc_of (by decide) (by decide), by decide, by decide, by decide⟩
  | 8, _, _ => exact ⟨asc_of (by decide) (by decide), by decide, by decide, by decide⟩
  | n + 9, _, h => omega
end Go.Proofs.YtbdlahhejfamhaaGreatDoor.Qry
/- A kid without a kind gives no kind. -/
namespace Go.Proofs.YtbdlahhejfamhaaGreatDoor.Qry
open Go.RowKit

theorem nm_parts {d : Nat} {r : Pl} {ks : List Tr} (h : Gt NM d (.nd r ks)) : r.kc = ks.length ∧ d ≤ 12 ∧ right r = true ∧ shape r ks ∧ GtL NM (d + 1) ks := by
  simp only [Gt] at h
  obtain ⟨h1, ⟨h2, h3, h4, h5, h6⟩, h7⟩ := h
  exact ⟨h1, h2, h4, (shape_iff h1 h4).2 ⟨h5, h6⟩, h7⟩
theorem kind_cases {r : Pl} (h : right r = true) : r.kd = 1 ∨ r.kd = 2 ∨ r.kd = 3 ∨ r.kd = 4 ∨ r.kd = 5 ∨ r.kd = 6 ∨ r.kd = 7 ∨ r.kd = 8 ∨ r.kd = 9 := by
  unfold right at h
  by_cases h1 : r.kd = 1; · exact .inl h1
  by_cases h2 : r.kd = 2; · exact .inr (.inl h2)
  by_cases h3 : r.kd = 3; · exact .inr (.inr (.inl h3))
  by_cases h4 : r.kd = 4; · omega
  by_cases h5 : r.kd = 5; · omega
  by_cases h6 : r.kd = 6; · omega
  by_cases h7 : r.kd = 7; · omega
  by_cases h8 : r.kd = 8; · omega
  by_cases h9 : r.kd = 9; · omega
  rw [if_neg h1, if_neg h2, if_neg h3, if_neg h4, if_neg h5, if_neg h6, if_neg h7, if_neg h8, if_neg h9] at h
  cases h
theorem takesK_ne (s : ByteArray) : ∀ k ∈ takesK s, k ≠ .e := by
  unfold takesK
  by_cases h1 : s = nTime
  · rw [if_pos h1]; decide
  rw [if_neg h1]
  by_cases h2 : s = nScalar ∨ s = nAbs ∨ s = nAbsent ∨ s = nStamp
  · rw [if_pos h2]; decide
  rw [if_neg h2]
  by_cases h3 : s = nClamp
  · rw [if_pos h3]; decide
  rw [if_neg h3]
  by_cases h4 : s = nHist
  · rw [if_pos h4]; decide
  rw [if_neg h4]
  by_cases h5 : s = nJoin
  · rw [if_pos h5]; decide
  rw [if_neg h5]
  by_cases h6 : s = nSet
  · rw [if_pos h6]; decide
  rw [if_neg h6]
  by_cases h7 : s = nPredict
  · rw [if_pos h7]; decide
  rw [if_neg h7]
  by_cases h8 : s = nQuant
  · rw [if_pos h8]; decide
  rw [if_neg h8]
  by_cases h9 : s = nVector
  · rw [if_pos h9]; decide
  rw [if_neg h9]; decide
theorem kdq_none {d : Nat} {r : Pl} {ks : List Tr} (h : Gt NM d (.nd r ks)) (he : K.e ∈ kdL ks) : kdq r (kdL ks) = .e := by
  obtain ⟨h1, h2, h3, h4, h5⟩ := nm_parts h
  unfold shape at h4
  rcases kind_cases h3 with g | g | g | g | g | g | g | g | g
  · rcases h4 with ⟨_, rfl⟩ | h4 | h4 | h4 | h4 | h4
    · simp [kdL] at he
    all_goals omega
  · rcases h4 with ⟨_, rfl⟩ | h4 | h4 | h4 | h4 | h4
    · simp [kdL] at he
    all_goals omega
  · rcases h4 with ⟨_, rfl⟩ | h4 | h4 | h4 | h4 | h4
    · simp [kdL] at he
    all_goals omega
  · rcases h4 with ⟨h4, _⟩ | ⟨_, ⟨r', ks'⟩, rfl, hk⟩ | ⟨h4, _⟩ | ⟨h4, _⟩ | h4 | h4
    · omega
    · simp only [kdL, kdT, List.mem_cons, List.not_mem_nil, or_false] at he
      have hk' : r'.kd = 3 := hk
      unfold kdq at he
      rw [if_neg (by omega), if_neg (by omega), if_pos hk'] at he
      cases he
    all_goals omega
  · rcases h4 with ⟨h4, _⟩ | ⟨h4, _⟩ | ⟨_, k, rfl⟩ | ⟨h4, _⟩ | h4 | h4
    · omega
    · omega
    · simp only [kdL, List.mem_cons, List.not_mem_nil, or_false] at he
      simp only [kdL, ← he]
      unfold kdq
      rw [if_neg (by omega), if_neg (by omega), if_neg (by omega), if_neg (by omega), if_pos g]
      rfl
    all_goals omega
  · rcases h4 with ⟨h4, _⟩ | ⟨h4, _⟩ | ⟨_, k, rfl⟩ | ⟨h4, _⟩ | h4 | h4
    · omega
    · omega
    · simp only [kdL, List.mem_cons, List.not_mem_nil, or_false] at he
      simp only [kdL, ← he]
      unfold kdq
      rw [if_neg (by omega), if_neg (by omega), if_neg (by omega), if_neg (by omega), if_neg (by omega), if_pos g]
      rfl
    all_goals omega
  · rcases h4 with ⟨h4, _⟩ | ⟨h4, _⟩ | ⟨h4, _⟩ | ⟨_, k, l, rfl⟩ | h4 | h4
    · omega
    · omega
    · omega
    · simp only [kdL, List.mem_cons, List.not_mem_nil, or_false] at he
      unfold kdq
      rw [if_neg (by omega), if_neg (by omega), if_neg (by omega), if_neg (by omega), if_neg (by omega), if_neg (by omega), if_pos g]
      unfold opK
      refine if_pos ?_
      rcases he with he | he
      · exact .inl (show (kdT k).val = false by rw [← he]; rfl)
      · exact .inr (show (kdT l).val = false by rw [← he]; rfl)
    all_goals omega
  · unfold kdq
    rw [if_neg (by omega), if_neg (by omega), if_neg (by omega), if_neg (by omega), if_neg (by omega), if_neg (by omega), if_neg (by omega), if_pos g]
    unfold aggK
    refine if_neg (fun e => ?_)
    rw [e] at he
    by_cases h6 : 6 ≤ r.op
    · rw [if_pos h6] at he; revert he; decide
    · rw [if_neg h6] at he; revert he; decide
  · unfold kdq
    rw [if_neg (by omega), if_neg (by omega), if_neg (by omega), if_neg (by omega), if_neg (by omega), if_neg (by omega), if_neg (by omega), if_neg (by omega)]
    unfold callK
    refine if_neg (fun e => ?_)
    rw [← e] at he
    unfold padL at he
    cases hm : moreK r.tx with
    | false => rw [hm] at he; exact takesK_ne _ _ he rfl
    | true =>
      rw [hm] at he
      rcases List.mem_append.1 he with h | h
      · exact takesK_ne _ _ h rfl
      · have := List.eq_of_mem_replicate h; cases this
end Go.Proofs.YtbdlahhejfamhaaGreatDoor.Qry
