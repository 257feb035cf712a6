/-
  Slices of CondNode, said of a world. No program is named here.
-/
import Derived.Test.YtfcgdhedaefonaaRecLib
import Derived.WalkKit
import Derived.ProofKit
import Derived.ChangeSlices
import Derived.Laws.Rows
import Derived.Laws.AppendOwn
import Derived.Laws.OwnMore
namespace Go.Proofs.Ytfcgdhedaefonaa
open Go.RowKit Go.ChangeShapes

structure CN where
  kind : Int
  opt : ByteArray
  vl : ByteArray
instance : Inhabited CN := ⟨⟨0, ByteArray.empty, ByteArray.empty⟩⟩
/-- One as a value. -/
def CN.val (r : CN) : Value := .agg #[.int .i64 r.kind, .string r.opt, .string r.vl]
/-- Its texts are no longer than a text can be. -/
def CN.Sz (r : CN) : Prop := r.opt.size ≤ maxLen ∧ r.vl.size ≤ maxLen
/-- The cells of a slice of them: at block b from o on. -/
def CN.At (w : World) (b o : Nat) (xs : List CN) : Prop :=
  b < w.heap.size ∧ ∀ (j : Nat) (x : CN), xs[j]? = some x → w.cell? ⟨b, o + j * 3, none⟩ = some (.int .i64 x.kind) ∧ w.cell? ⟨b, o + j * 3 + 1, none⟩ = some (.string x.opt) ∧ w.cell? ⟨b, o + j * 3 + 2, none⟩ = some (.string x.vl)
/-- In the world w the value v is a slice that reads as these. -/
def CN.Is (w : World) (v : Value) (xs : List CN) : Prop :=
  (xs = [] ∧ ∃ (a : Option Addr) (c : Nat), v = .slice a 0 c) ∨
  (xs ≠ [] ∧ ∃ b o c : Nat, v = .slice (some ⟨b, o, none⟩) xs.length c ∧ xs.length ≤ c ∧ CN.At w b o xs)
theorem CN.At.below {w w' : World} {b o : Nat} {xs : List CN} (h : CN.At w b o xs) (hb : Below w.heap.size w w') : CN.At w' b o xs :=
  ⟨Nat.lt_of_lt_of_le h.1 hb.size, fun j x hx => ⟨(hb.cell (p := ⟨b, o + j * 3, none⟩) h.1).trans ((h.2 j x hx).1), (hb.cell (p := ⟨b, o + j * 3 + 1, none⟩) h.1).trans ((h.2 j x hx).2.1), (hb.cell (p := ⟨b, o + j * 3 + 2, none⟩) h.1).trans ((h.2 j x hx).2.2)⟩⟩
theorem CN.Is.below {w w' : World} {v : Value} {xs : List CN} (h : CN.Is w v xs) (hb : Below w.heap.size w w') : CN.Is w' v xs := by
  rcases h with h | ⟨h0, b, o, c, hv, hc, hcell⟩
  · exact Or.inl h
  · exact Or.inr ⟨h0, b, o, c, hv, hc, hcell.below hb⟩
theorem CN.At.at {w : World} {b o : Nat} {xs : List CN} (h : CN.At w b o xs) (j : Nat) (hj : j < xs.length) : w.cell? ⟨b, o + j * 3, none⟩ = some (.int .i64 (xs[j]'hj).kind) ∧ w.cell? ⟨b, o + j * 3 + 1, none⟩ = some (.string (xs[j]'hj).opt) ∧ w.cell? ⟨b, o + j * 3 + 2, none⟩ = some (.string (xs[j]'hj).vl) :=
  h.2 j _ (List.getElem?_eq_getElem hj)
theorem CN.Is.slice {w : World} {v : Value} {xs : List CN} (h : CN.Is w v xs) : ∃ (a : Option Addr) (c : Nat), v = .slice a xs.length c := by
  rcases h with ⟨rfl, a, c, rfl⟩ | ⟨h0, b, o, c, rfl, hc, hcell⟩
  · exact ⟨a, c, rfl⟩
  · exact ⟨_, c, rfl⟩
theorem CN.Is.some {w : World} {v : Value} {xs : List CN} (h : CN.Is w v xs) (h0 : 0 < xs.length) : ∃ b o c : Nat, v = .slice (some ⟨b, o, none⟩) xs.length c ∧ xs.length ≤ c ∧ CN.At w b o xs := by
  rcases h with ⟨rfl, _⟩ | ⟨_, h⟩
  · simp at h0
  · exact h
/-- The cells of a row. -/
def CN.enc (r : CN) : List Value := [.int .i64 r.kind, .string r.opt, .string r.vl]
def CN.cells (xs : List CN) : List Value := xs.flatMap CN.enc
theorem CN.cells_cons (r : CN) (xs : List CN) : CN.cells (r :: xs) = .int .i64 r.kind :: .string r.opt :: .string r.vl :: CN.cells xs := rfl
theorem CN.cells_push (xs : List CN) (r : CN) : CN.cells xs ++ [.int .i64 r.kind, .string r.opt, .string r.vl] = CN.cells (xs ++ [r]) := by simp [CN.cells, CN.enc]
theorem CN.cells_append (xs ys : List CN) : CN.cells xs ++ CN.cells ys = CN.cells (xs ++ ys) := by simp [CN.cells]
theorem CN.cells_length (xs : List CN) : (CN.cells xs).length = xs.length * 3 := by
  induction xs with
  | nil => rfl
  | cons r xs ih => rw [CN.cells_cons]; simp only [List.length_cons, ih]; omega
theorem CN.cells_at (xs : List CN) : ∀ (j : Nat) (x : CN), xs[j]? = some x → (CN.cells xs)[j * 3]? = some (.int .i64 x.kind) ∧ (CN.cells xs)[j * 3 + 1]? = some (.string x.opt) ∧ (CN.cells xs)[j * 3 + 2]? = some (.string x.vl) := by
  induction xs with
  | nil => intro j x h; simp at h
  | cons r xs ih =>
    intro j x h
    cases j with
    | zero =>
      simp at h
      subst h
      exact ⟨rfl, rfl, rfl⟩
    | succ k =>
      have h2 := ih k x (by simpa using h)
      rw [CN.cells_cons, show (k + 1) * 3 = k * 3 + 1 + 1 + 1 by omega, show k * 3 + 1 + 1 + 1 + 1 = (k * 3 + 1) + 1 + 1 + 1 by omega, show k * 3 + 1 + 1 + 1 + 2 = (k * 3 + 2) + 1 + 1 + 1 by omega]
      simp only [List.getElem?_cons_succ]
      exact h2
theorem CN.is_of_row {w : World} {base e : Nat} {v : Value} {xs : List CN} (h : w.ownsRow base e 3 v xs.length (CN.cells xs)) : CN.Is w v xs := by
  rcases h.2 with ⟨rfl, hx⟩ | ⟨g, cap, cur, rfl, hb, hg, hnc, hcm, hcs, htake⟩
  · exact Or.inl ⟨List.eq_nil_of_length_eq_zero hx, _, _, rfl⟩
  · by_cases h0 : xs = []
    · subst h0
      exact Or.inl ⟨rfl, _, _, rfl⟩
    · refine Or.inr ⟨h0, g, 0, cap, rfl, hnc, (h.lt g rfl).2, fun j x hx => ?_⟩
      have hj : j < xs.length := (List.getElem?_eq_some_iff.1 hx).1
      have h4 := CN.cells_at xs j x hx
      rw [Nat.zero_add, h.cellAt (j * 3) (by omega), h.cellAt (j * 3 + 1) (by omega), h.cellAt (j * 3 + 2) (by omega)]
      exact h4
end Go.Proofs.Ytfcgdhedaefonaa
