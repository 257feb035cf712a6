/-
  Slices of Pick, said of a world. No program is named here.
-/
import Derived.Test.YtkmjaiicobkkhaaRecLib
import Derived.WalkKit
import Derived.ProofKit
import Derived.ChangeSlices
import Derived.Laws.Rows
import Derived.Laws.AppendOwn
import Derived.Laws.OwnMore
namespace Go.Proofs.Ytkmjaiicobkkhaa
open Go.RowKit Go.ChangeShapes

structure PK where
  opt : ByteArray
  vl : ByteArray
instance : Inhabited PK := ⟨⟨ByteArray.empty, ByteArray.empty⟩⟩
/-- One as a value. -/
def PK.val (r : PK) : Value := .agg #[.string r.opt, .string r.vl]
/-- Its texts are no longer than a text can be. -/
def PK.Sz (r : PK) : Prop := r.opt.size ≤ maxLen ∧ r.vl.size ≤ maxLen
/-- The cells of a slice of them: at block b from o on. -/
def PK.At (w : World) (b o : Nat) (xs : List PK) : Prop :=
  b < w.heap.size ∧ ∀ (j : Nat) (x : PK), xs[j]? = some x → w.cell? ⟨b, o + j * 2, none⟩ = some (.string x.opt) ∧ w.cell? ⟨b, o + j * 2 + 1, none⟩ = some (.string x.vl)
/-- In the world w the value v is a slice that reads as these. -/
def PK.Is (w : World) (v : Value) (xs : List PK) : Prop :=
  (xs = [] ∧ ∃ (a : Option Addr) (c : Nat), v = .slice a 0 c) ∨
  (xs ≠ [] ∧ ∃ b o c : Nat, v = .slice (some ⟨b, o, none⟩) xs.length c ∧ xs.length ≤ c ∧ PK.At w b o xs)
theorem PK.At.below {w w' : World} {b o : Nat} {xs : List PK} (h : PK.At w b o xs) (hb : Below w.heap.size w w') : PK.At w' b o xs :=
  ⟨Nat.lt_of_lt_of_le h.1 hb.size, fun j x hx => ⟨(hb.cell (p := ⟨b, o + j * 2, none⟩) h.1).trans ((h.2 j x hx).1), (hb.cell (p := ⟨b, o + j * 2 + 1, none⟩) h.1).trans ((h.2 j x hx).2)⟩⟩
theorem PK.Is.below {w w' : World} {v : Value} {xs : List PK} (h : PK.Is w v xs) (hb : Below w.heap.size w w') : PK.Is w' v xs := by
  rcases h with h | ⟨h0, b, o, c, hv, hc, hcell⟩
  · exact Or.inl h
  · exact Or.inr ⟨h0, b, o, c, hv, hc, hcell.below hb⟩
theorem PK.At.at {w : World} {b o : Nat} {xs : List PK} (h : PK.At w b o xs) (j : Nat) (hj : j < xs.length) : w.cell? ⟨b, o + j * 2, none⟩ = some (.string (xs[j]'hj).opt) ∧ w.cell? ⟨b, o + j * 2 + 1, none⟩ = some (.string (xs[j]'hj).vl) :=
  h.2 j _ (List.getElem?_eq_getElem hj)
theorem PK.Is.slice {w : World} {v : Value} {xs : List PK} (h : PK.Is w v xs) : ∃ (a : Option Addr) (c : Nat), v = .slice a xs.length c := by
  rcases h with ⟨rfl, a, c, rfl⟩ | ⟨h0, b, o, c, rfl, hc, hcell⟩
  · exact ⟨a, c, rfl⟩
  · exact ⟨_, c, rfl⟩
theorem PK.Is.some {w : World} {v : Value} {xs : List PK} (h : PK.Is w v xs) (h0 : 0 < xs.length) : ∃ b o c : Nat, v = .slice (some ⟨b, o, none⟩) xs.length c ∧ xs.length ≤ c ∧ PK.At w b o xs := by
  rcases h with ⟨rfl, _⟩ | ⟨_, h⟩
  · simp at h0
  · exact h
/-- The cells of a row. -/
def PK.enc (r : PK) : List Value := [.string r.opt, .string r.vl]
def PK.cells (xs : List PK) : List Value := xs.flatMap PK.enc
theorem PK.cells_cons (r : PK) (xs : List PK) : PK.cells (r :: xs) = .string r.opt :: .string r.vl :: PK.cells xs := rfl
theorem PK.cells_push (xs : List PK) (r : PK) : PK.cells xs ++ [.string r.opt, .string r.vl] = PK.cells (xs ++ [r]) := by simp [PK.cells, PK.enc]
theorem PK.cells_append (xs ys : List PK) : PK.cells xs ++ PK.cells ys = PK.cells (xs ++ ys) := by simp [PK.cells]
theorem PK.cells_length (xs : List PK) : (PK.cells xs).length = xs.length * 2 := by
  induction xs with
  | nil => rfl
  | cons r xs ih => rw [PK.cells_cons]; simp only [List.length_cons, ih]; omega
theorem PK.cells_at (xs : List PK) : ∀ (j : Nat) (x : PK), xs[j]? = some x → (PK.cells xs)[j * 2]? = some (.string x.opt) ∧ (PK.cells xs)[j * 2 + 1]? = some (.string x.vl) := by
  induction xs with
  | nil => intro j x h; simp at h
  | cons r xs ih =>
    intro j x h
    cases j with
    | zero =>
      simp at h
      subst h
      exact ⟨rfl, rfl⟩
    | succ k =>
      have h2 := ih k x (by simpa using h)
      rw [PK.cells_cons, show (k + 1) * 2 = k * 2 + 1 + 1 by omega, show k * 2 + 1 + 1 + 1 = (k * 2 + 1) + 1 + 1 by omega]
      simp only [List.getElem?_cons_succ]
      exact h2
theorem PK.is_of_row {w : World} {base e : Nat} {v : Value} {xs : List PK} (h : w.ownsRow base e 2 v xs.length (PK.cells xs)) : PK.Is w v xs := by
  rcases h.2 with ⟨rfl, hx⟩ | ⟨g, cap, cur, rfl, hb, hg, hnc, hcm, hcs, htake⟩
  · exact Or.inl ⟨List.eq_nil_of_length_eq_zero hx, _, _, rfl⟩
  · by_cases h0 : xs = []
    · subst h0
      exact Or.inl ⟨rfl, _, _, rfl⟩
    · refine Or.inr ⟨h0, g, 0, cap, rfl, hnc, (h.lt g rfl).2, fun j x hx => ?_⟩
      have hj : j < xs.length := (List.getElem?_eq_some_iff.1 hx).1
      have h4 := PK.cells_at xs j x hx
      rw [Nat.zero_add, h.cellAt (j * 2) (by omega), h.cellAt (j * 2 + 1) (by omega)]
      exact h4
end Go.Proofs.Ytkmjaiicobkkhaa
