/-
  Slices of Step, said of a world. No program is named here.
-/
import Derived.Test.YtfcgdhedaefonaaRecLib
import Derived.WalkKit
import Derived.ProofKit
import Derived.ChangeSlices
import Derived.Laws.Rows
import Derived.Laws.AppendOwn
import Derived.Laws.OwnMore
namespace Go.Proofs.Ytfcgdhedaefonaa
open Go.RowKit Go.ChangeShapes

structure ST where
  cen : ByteArray
  stu : Int
  run : Int
instance : Inhabited ST := ⟨⟨ByteArray.empty, 0, 0⟩⟩
/-- One as a value. -/
def ST.val (r : ST) : Value := .agg #[.string r.cen, .int .i64 r.stu, .int .i64 r.run]
/-- Its texts are no longer than a text can be. -/
def ST.Sz (r : ST) : Prop := r.cen.size ≤ maxLen
/-- The cells of a slice of them: at block b from o on. -/
def ST.At (w : World) (b o : Nat) (xs : List ST) : Prop :=
  b < w.heap.size ∧ ∀ (j : Nat) (x : ST), xs[j]? = some x → w.cell? ⟨b, o + j * 3, none⟩ = some (.string x.cen) ∧ w.cell? ⟨b, o + j * 3 + 1, none⟩ = some (.int .i64 x.stu) ∧ w.cell? ⟨b, o + j * 3 + 2, none⟩ = some (.int .i64 x.run)
/-- In the world w the value v is a slice that reads as these. -/
def ST.Is (w : World) (v : Value) (xs : List ST) : Prop :=
  (xs = [] ∧ ∃ (a : Option Addr) (c : Nat), v = .slice a 0 c) ∨
  (xs ≠ [] ∧ ∃ b o c : Nat, v = .slice (some ⟨b, o, none⟩) xs.length c ∧ xs.length ≤ c ∧ ST.At w b o xs)
theorem ST.At.below {w w' : World} {b o : Nat} {xs : List ST} (h : ST.At w b o xs) (hb : Below w.heap.size w w') : ST.At w' b o xs :=
  ⟨Nat.lt_of_lt_of_le h.1 hb.size, fun j x hx => ⟨(hb.cell (p := ⟨b, o + j * 3, none⟩) h.1).trans ((h.2 j x hx).1), (hb.cell (p := ⟨b, o + j * 3 + 1, none⟩) h.1).trans ((h.2 j x hx).2.1), (hb.cell (p := ⟨b, o + j * 3 + 2, none⟩) h.1).trans ((h.2 j x hx).2.2)⟩⟩
theorem ST.Is.below {w w' : World} {v : Value} {xs : List ST} (h : ST.Is w v xs) (hb : Below w.heap.size w w') : ST.Is w' v xs := by
  rcases h with h | ⟨h0, b, o, c, hv, hc, hcell⟩
  · exact Or.inl h
  · exact Or.inr ⟨h0, b, o, c, hv, hc, hcell.below hb⟩
theorem ST.At.at {w : World} {b o : Nat} {xs : List ST} (h : ST.At w b o xs) (j : Nat) (hj : j < xs.length) : w.cell? ⟨b, o + j * 3, none⟩ = some (.string (xs[j]'hj).cen) ∧ w.cell? ⟨b, o + j * 3 + 1, none⟩ = some (.int .i64 (xs[j]'hj).stu) ∧ w.cell? ⟨b, o + j * 3 + 2, none⟩ = some (.int .i64 (xs[j]'hj).run) :=
  h.2 j _ (List.getElem?_eq_getElem hj)
theorem ST.Is.slice {w : World} {v : Value} {xs : List ST} (h : ST.Is w v xs) : ∃ (a : Option Addr) (c : Nat), v = .slice a xs.length c := by
  rcases h with ⟨rfl, a, c, rfl⟩ | ⟨h0, b, o, c, rfl, hc, hcell⟩
  · exact ⟨a, c, rfl⟩
  · exact ⟨_, c, rfl⟩
theorem ST.Is.some {w : World} {v : Value} {xs : List ST} (h : ST.Is w v xs) (h0 : 0 < xs.length) : ∃ b o c : Nat, v = .slice (some ⟨b, o, none⟩) xs.length c ∧ xs.length ≤ c ∧ ST.At w b o xs := by
  rcases h with ⟨rfl, _⟩ | ⟨_, h⟩
  · simp at h0
  · exact h
/-- The cells of a row. -/
def ST.enc (r : ST) : List Value := [.string r.cen, .int .i64 r.stu, .int .i64 r.run]
def ST.cells (xs : List ST) : List Value := xs.flatMap ST.enc
theorem ST.cells_cons (r : ST) (xs : List ST) : ST.cells (r :: xs) = .string r.cen :: .int .i64 r.stu :: .int .i64 r.run :: ST.cells xs := rfl
theorem ST.cells_push (xs : List ST) (r : ST) : ST.cells xs ++ [.string r.cen, .int .i64 r.stu, .int .i64 r.run] = ST.cells (xs ++ [r]) := by simp [ST.cells, ST.enc]
theorem ST.cells_append (xs ys : List ST) : ST.cells xs ++ ST.cells ys = ST.cells (xs ++ ys) := by simp [ST.cells]
theorem ST.cells_length (xs : List ST) : (ST.cells xs).length = xs.length * 3 := by
  induction xs with
  | nil => rfl
  | cons r xs ih => rw [ST.cells_cons]; simp only [List.length_cons, ih]; omega
theorem ST.cells_at (xs : List ST) : ∀ (j : Nat) (x : ST), xs[j]? = some x → (ST.cells xs)[j * 3]? = some (.string x.cen) ∧ (ST.cells xs)[j * 3 + 1]? = some (.int .i64 x.stu) ∧ (ST.cells xs)[j * 3 + 2]? = some (.int .i64 x.run) := by
  induction xs with
  | nil => intro j x h; simp at h
  | cons r xs ih =>
    intro j x h
    cases j with
    | zero =>
      simp at h
      subst h
      exact ⟨rfl, rfl, rfl⟩
    | succ k =>
      have h2 := ih k x (by simpa using h)
      rw [ST.cells_cons, show (k + 1) * 3 = k * 3 + 1 + 1 + 1 by omega, show k * 3 + 1 + 1 + 1 + 1 = (k * 3 + 1) + 1 + 1 + 1 by omega, show k * 3 + 1 + 1 + 1 + 2 = (k * 3 + 2) + 1 + 1 + 1 by omega]
      simp only [List.getElem?_cons_succ]
      exact h2
theorem ST.is_of_row {w : World} {base e : Nat} {v : Value} {xs : List ST} (h : w.ownsRow base e 3 v xs.length (ST.cells xs)) : ST.Is w v xs := by
  rcases h.2 with ⟨rfl, hx⟩ | ⟨g, cap, cur, rfl, hb, hg, hnc, hcm, hcs, htake⟩
  · exact Or.inl ⟨List.eq_nil_of_length_eq_zero hx, _, _, rfl⟩
  · by_cases h0 : xs = []
    · subst h0
      exact Or.inl ⟨rfl, _, _, rfl⟩
    · refine Or.inr ⟨h0, g, 0, cap, rfl, hnc, (h.lt g rfl).2, fun j x hx => ?_⟩
      have hj : j < xs.length := (List.getElem?_eq_some_iff.1 hx).1
      have h4 := ST.cells_at xs j x hx
      rw [Nat.zero_add, h.cellAt (j * 3) (by omega), h.cellAt (j * 3 + 1) (by omega), h.cellAt (j * 3 + 2) (by omega)]
      exact h4
end Go.Proofs.Ytfcgdhedaefonaa
