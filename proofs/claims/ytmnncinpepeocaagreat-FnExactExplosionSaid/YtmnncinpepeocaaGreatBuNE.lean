import Derived.Test.YtmnncinpepeocaaGreatBuA
import Derived.WalkKit
import Derived.ProofKit
import Derived.ChangeSlices
import Derived.Laws.Rows
import Derived.Laws.AppendOwn
import Derived.Laws.OwnMore
namespace Go.Proofs.YtmnncinpepeocaaGreat
open Go.RowKit Go.ChangeShapes

structure NE where
 code : ByteArray
 qty : Int
instance : Inhabited NE := ⟨⟨ByteArray.empty, 0⟩⟩
/-- One as a value. -/
def NE.val (r : NE) : Value := .agg #[.string r.code, .int .i64 r.qty]
/-- Its texts are no longer than a text can be. -/
def NE.Sz (r : NE) : Prop := r.code.size ≤ maxLen
/-- The cells of a slice of them: at block b from o on. -/
def NE.At (w : World) (b o : Nat) (xs : List NE) : Prop :=
 b < w.heap.size ∧ ∀ (j : Nat) (x : NE), xs[j]? = some x → w.cell? ⟨b, o + j * 2, none⟩ = some (.string x.code) ∧ w.cell? ⟨b, o + j * 2 + 1, none⟩ = some (.int .i64 x.qty)
/-- In the world w the value v is a slice that reads as these. -/
def NE.Is (w : World) (v : Value) (xs : List NE) : Prop :=
 (xs = [] ∧ ∃ (a : Option Addr) (c : Nat), v = .slice a 0 c) ∨
 (xs ≠ [] ∧ ∃ b o c : Nat, v = .slice (some ⟨b, o, none⟩) xs.length c ∧ xs.length ≤ c ∧ NE.At w b o xs)
theorem NE.At.below {w w' : World} {b o : Nat} {xs : List NE} (h : NE.At w b o xs) (hb : Below w.heap.size w w') : NE.At w' b o xs :=
 ⟨Nat.lt_of_lt_of_le h.1 hb.size, fun j x hx => ⟨(hb.cell (p := ⟨b, o + j * 2, none⟩) h.1).trans ((h.2 j x hx).1), (hb.cell (p := ⟨b, o + j * 2 + 1, none⟩) h.1).trans ((h.2 j x hx).2)⟩⟩
theorem NE.Is.below {w w' : World} {v : Value} {xs : List NE} (h : NE.Is w v xs) (hb : Below w.heap.size w w') : NE.Is w' v xs := by
 rcases h with h | ⟨h0, b, o, c, hv, hc, hcell⟩
 · exact Or.inl h
 · exact Or.inr ⟨h0, b, o, c, hv, hc, hcell.below hb⟩
theorem NE.At.at {w : World} {b o : Nat} {xs : List NE} (h : NE.At w b o xs) (j : Nat) (hj : j < xs.length) : w.cell? ⟨b, o + j * 2, none⟩ = some (.string (xs[j]'hj).code) ∧ w.cell? ⟨b, o + j * 2 + 1, none⟩ = some (.int .i64 (xs[j]'hj).qty) :=
 h.2 j _ (List.getElem?_eq_getElem hj)
theorem NE.Is.slice {w : World} {v : Value} {xs : List NE} (h : NE.Is w v xs) : ∃ (a : Option Addr) (c : Nat), v = .slice a xs.length c := by
 rcases h with ⟨rfl, a, c, rfl⟩ | ⟨h0, b, o, c, rfl, hc, hcell⟩
 · exact ⟨a, c, rfl⟩
 · exact ⟨_, c, rfl⟩
theorem NE.Is.some {w : World} {v : Value} {xs : List NE} (h : NE.Is w v xs) (h0 : 0 < xs.length) : ∃ b o c : Nat, v = .slice (some ⟨b, o, none⟩) xs.length c ∧ xs.length ≤ c ∧ NE.At w b o xs := by
 rcases h with ⟨rfl, _⟩ | ⟨_, h⟩
 · simp at h0
 · exact h
/-- The cells of a row. -/
def NE.enc (r : NE) : List Value := [.string r.code, .int .i64 r.qty]
def NE.cells (xs : List NE) : List Value := xs.flatMap NE.enc
theorem NE.cells_cons (r : NE) (xs : List NE) : NE.cells (r :: xs) = .string r.code :: .int .i64 r.qty :: NE.cells xs := rfl
theorem NE.cells_push (xs : List NE) (r : NE) : NE.cells xs ++ [.string r.code, .int .i64 r.qty] = NE.cells (xs ++ [r]) := by simp [NE.cells, NE.enc]
theorem NE.cells_append (xs ys : List NE) : NE.cells xs ++ NE.cells ys = NE.cells (xs ++ ys) := by simp [NE.cells]
theorem NE.cells_length (xs : List NE) : (NE.cells xs).length = xs.length * 2 := by
 induction xs with
 | nil => rfl
 | cons r xs ih => rw [NE.cells_cons]; simp only [List.length_cons, ih]; omega
theorem NE.cells_at (xs : List NE) : ∀ (j : Nat) (x : NE), xs[j]? = some x → (NE.cells xs)[j * 2]? = some (.string x.code) ∧ (NE.cells xs)[j * 2 + 1]? = some (.int .i64 x.qty) := by
 induction xs with
 | nil => intro j x h; simp at h
 | cons r xs ih =>
  intro j x h
  cases j with
  | zero =>
   simp at h
   subst h
   exact ⟨rfl, rfl⟩
  | succ k =>
   have h2 := ih k x (by simpa using h)
   rw [NE.cells_cons, show (k + 1) * 2 = k * 2 + 1 + 1 by omega, show k * 2 + 1 + 1 + 1 = (k * 2 + 1) + 1 + 1 by omega]
   simp only [List.getElem?_cons_succ]
   exact h2
theorem NE.is_of_row {w : World} {base e : Nat} {v : Value} {xs : List NE} (h : w.ownsRow base e 2 v xs.length (NE.cells xs)) : NE.Is w v xs := by
 rcases h.2 with ⟨rfl, hx⟩ | ⟨g, cap, cur, rfl, hb, hg, hnc, hcm, hcs, htake⟩
 · exact Or.inl ⟨List.eq_nil_of_length_eq_zero hx, _, _, rfl⟩
 · by_cases h0 : xs = []
   · subst h0
     exact Or.inl ⟨rfl, _, _, rfl⟩
   · refine Or.inr ⟨h0, g, 0, cap, rfl, hnc, (h.lt g rfl).2, fun j x hx => ?_⟩
     have hj : j < xs.length := (List.getElem?_eq_some_iff.1 hx).1
     have h4 := NE.cells_at xs j x hx
     rw [Nat.zero_add, h.cellAt (j * 2) (by omega), h.cellAt (j * 2 + 1) (by omega)]
     exact h4
end Go.Proofs.YtmnncinpepeocaaGreat
