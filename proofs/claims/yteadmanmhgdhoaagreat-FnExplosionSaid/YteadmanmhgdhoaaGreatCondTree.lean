/-
 Conditions as trees: where a subtree begins, its text, its opposite. No program is named here.
-/
import Derived.Test.YteadmanmhgdhoaaGreatCondLib
import Derived.Lib.Hide
namespace Go.Proofs.YteadmanmhgdhoaaGreat

/-- The last node. -/
def CT.top : CT → CN
 | .tt => ⟨0, eB, eB⟩
 | .is o v => ⟨1, o, v⟩
 | .no _ => ⟨2, eB, eB⟩
 | .and _ _ => ⟨3, eB, eB⟩
 | .or _ _ => ⟨4, eB, eB⟩
/-- The operands, the last first. -/
def CT.kids : CT → List CT
 | .tt => []
 | .is _ _ => []
 | .no t => [t]
 | .and a b => [b, a]
 | .or a b => [b, a]
theorem top_post (t : CT) (q : List CT) : postS (t :: q) = postS (t.kids ++ q) ++ [t.top] := by
 cases t <;> simp [postS, CT.kids, CT.top, CT.post]
theorem postS_app (r q : List CT) : postS (r ++ q) = postS q ++ postS r := by simp [postS]
theorem postS_len : ∀ (s : List CT), s.length ≤ (postS s).length
 | [] => Nat.le_refl _
 | t :: s => by
  have h1 := postS_len s
  have h2 := CT.post_pos t
  rw [postS_cons, List.length_append, List.length_cons]
  omega
/-- A list cut behind its m-th node. -/
theorem take_last {l A : List CN} {x : CN} {m : Nat} (hm : m ≤ l.length) (h : l.take m = A ++ [x]) : ∃ hk : A.length < l.length, m = A.length + 1 ∧ l[A.length]'hk = x ∧ l.take A.length = A := by
 have hl := congrArg List.length h
 rw [List.length_take, List.length_append, List.length_singleton, Nat.min_eq_left hm] at hl
 have hk : A.length < l.length := by omega
 refine ⟨hk, hl, ?_, ?_⟩
 · have h1 : (l.take m)[A.length]? = some x := by rw [h]; simp
   rw [List.getElem?_take_of_lt (by omega), List.getElem?_eq_getElem hk] at h1
   exact Option.some.inj h1
 · have h2 := congrArg (List.take A.length) h
   rw [List.take_take, Nat.min_eq_left (by omega)] at h2
   rw [h2]
   simp

abbrev tTrue : ByteArray := ⟨#[84, 82, 85, 69]⟩
abbrev tEq : ByteArray := ⟨#[61]⟩
abbrev tNot : ByteArray := ⟨#[33]⟩
abbrev tAnd : ByteArray := ⟨#[32, 38, 32]⟩
abbrev tOr : ByteArray := ⟨#[32, 124, 32]⟩
abbrev tOpen : ByteArray := ⟨#[40]⟩
abbrev tShut : ByteArray := ⟨#[41]⟩
/-- How tightly an operator binds. -/
def CT.level : CT → Nat
 | .or _ _ => 1
 | .and _ _ => 2
 | _ => 3
def par (lv least : Nat) (s : ByteArray) : ByteArray := if lv < least then (tOpen ++ s) ++ tShut else s
/-- The text of a condition as an operand. -/
def CT.fmt : CT → Nat → ByteArray
 | .tt, k => par 3 k tTrue
 | .is o v, k => par 3 k ((o ++ tEq) ++ v)
 | .no t, k => par 3 k (tNot ++ t.fmt 3)
 | .and a b, k => par 2 k ((a.fmt 2 ++ tAnd) ++ b.fmt 3)
 | .or a b, k => par 1 k ((a.fmt 1 ++ tOr) ++ b.fmt 2)
theorem cat_size (a b : ByteArray) : (a ++ b).size = a.size + b.size := ByteArray.size_append
theorem par_size (lv least : Nat) (s : ByteArray) : (par lv least s).size ≤ s.size + 2 := by
 unfold par
 split
 · rw [cat_size, cat_size]; show 1 + s.size + 1 ≤ _; omega
 · omega
theorem code_size {s : ByteArray} (h : isCode.codeB s = true) : s.size ≤ 8 := by
 by_cases hl : 1 ≤ s.size ∧ s.size ≤ 8
 · exact hl.2
 · rw [isCode.codeB_len hl] at h; cases h
theorem fmt_size : ∀ (t : CT) (k : Nat), t.ok → (t.fmt k).size ≤ 24 * t.post.length
 | .tt, k, _ => Nat.le_trans (par_size _ _ _) (by decide)
 | .is o v, k, h => by
  have h1 := code_size h.1
  have h2 := code_size h.2
  refine Nat.le_trans (par_size _ _ _) ?_
  rw [cat_size, cat_size]
  show o.size + 1 + v.size + 2 ≤ 24 * 1
  omega
 | .no t, k, h => by
  have h1 := fmt_size t 3 h
  refine Nat.le_trans (par_size _ _ _) ?_
  rw [cat_size]
  show 1 + (t.fmt 3).size + 2 ≤ 24 * (t.post ++ [_]).length
  rw [List.length_append, List.length_singleton]
  omega
 | .and a b, k, h => by
  have h1 := fmt_size a 2 h.1
  have h2 := fmt_size b 3 h.2
  refine Nat.le_trans (par_size _ _ _) ?_
  rw [cat_size, cat_size]
  show (a.fmt 2).size + 3 + (b.fmt 3).size + 2 ≤ 24 * ((a.post ++ b.post) ++ [_]).length
  rw [List.length_append, List.length_append, List.length_singleton]
  omega
 | .or a b, k, h => by
  have h1 := fmt_size a 1 h.1
  have h2 := fmt_size b 2 h.2
  refine Nat.le_trans (par_size _ _ _) ?_
  rw [cat_size, cat_size]
  show (a.fmt 1).size + 3 + (b.fmt 2).size + 2 ≤ 24 * ((a.post ++ b.post) ++ [_]).length
  rw [List.length_append, List.length_append, List.length_singleton]
  omega

/-- The opposite, or the same, with negations before options and TRUE only. -/
def CT.neg : CT → Bool → CT
 | .tt, z => if z then .no .tt else .tt
 | .is o v, z => if z then .no (.is o v) else .is o v
 | .no t, z => t.neg (!z)
 | .and a b, z => if z then .or (a.neg z) (b.neg z) else .and (a.neg z) (b.neg z)
 | .or a b, z => if z then .and (a.neg z) (b.neg z) else .or (a.neg z) (b.neg z)
theorem neg_ok : ∀ (t : CT) (z : Bool), t.ok → (t.neg z).ok
 | .tt, z, _ => by cases z <;> trivial
 | .is o v, z, h => by cases z <;> exact h
 | .no t, z, h => neg_ok t (!z) h
 | .and a b, z, h => by cases z <;> exact ⟨neg_ok a _ h.1, neg_ok b _ h.2⟩
 | .or a b, z, h => by cases z <;> exact ⟨neg_ok a _ h.1, neg_ok b _ h.2⟩
theorem neg_len : ∀ (t : CT) (z : Bool), (t.neg z).post.length ≤ 2 * t.post.length
 | .tt, z => by cases z <;> decide
 | .is o v, z => by cases z <;> simp [CT.neg, CT.post]
 | .no t, z => by
  have := neg_len t (!z)
  show (t.neg (!z)).post.length ≤ 2 * (t.post ++ [_]).length
  rw [List.length_append, List.length_singleton]
  omega
 | .and a b, z => by
  have h1 := neg_len a z
  have h2 := neg_len b z
  cases z <;> simp [CT.neg, CT.post] <;> omega
 | .or a b, z => by
  have h1 := neg_len a z
  have h2 := neg_len b z
  cases z <;> simp [CT.neg, CT.post] <;> omega
end Go.Proofs.YteadmanmhgdhoaaGreat
