/-
  Slices of Item, said of a world. No program is named here.
-/
import Derived.Test.YtmoeomeilbinhaaRecLib
import Derived.WalkKit
import Derived.ProofKit
import Derived.ChangeSlices
import Derived.Laws.Rows
import Derived.Laws.AppendOwn
import Derived.Laws.OwnMore
namespace Go.Proofs.Ytmoeomeilbinhaa
open Go.RowKit Go.ChangeShapes

structure IT where
  code : ByteArray
  unt : ByteArray
  kind : Int
  lead : Int
  rule : Int
  lsz : Int
  safe : Int
  scr : Int
instance : Inhabited IT := ⟨⟨ByteArray.empty, ByteArray.empty, 0, 0, 0, 0, 0, 0⟩⟩
/-- One as a value. -/
def IT.val (r : IT) : Value := .agg #[.string r.code, .string r.unt, .int .i64 r.kind, .int .i64 r.lead, .int .i64 r.rule, .int .i64 r.lsz, .int .i64 r.safe, .int .i64 r.scr]
/-- Its texts are no longer than a text can be. -/
def IT.Sz (r : IT) : Prop := r.code.size ≤ maxLen ∧ r.unt.size ≤ maxLen
/-- The cells of a slice of them: at block b from o on. -/
def IT.At (w : World) (b o : Nat) (xs : List IT) : Prop :=
  b < w.heap.size ∧ ∀ (j : Nat) (x : IT), xs[j]? = some x → w.cell? ⟨b, o + j * 8, none⟩ = some (.string x.code) ∧ w.cell? ⟨b, o + j * 8 + 1, none⟩ = some (.string x.unt) ∧ w.cell? ⟨b, o + j * 8 + 2, none⟩ = some (.int .i64 x.kind) ∧ w.cell? ⟨b, o + j * 8 + 3, none⟩ = some (.int .i64 x.lead) ∧ w.cell? ⟨b, o + j * 8 + 4, none⟩ = some (.int .i64 x.rule) ∧ w.cell? ⟨b, o + j * 8 + 5, none⟩ = some (.int .i64 x.lsz) ∧ w.cell? ⟨b, o + j * 8 + 6, none⟩ = some (.int .i64 x.safe) ∧ w.cell? ⟨b, o + j * 8 + 7, none⟩ = some (.int .i64 x.scr)
/-- In the world w the value v is a slice that reads as these. -/
def IT.Is (w : World) (v : Value) (xs : List IT) : Prop :=
  (xs = [] ∧ ∃ (a : Option Addr) (c : Nat), v = .slice a 0 c) ∨
  (xs ≠ [] ∧ ∃ b o c : Nat, v = .slice (some ⟨b, o, none⟩) xs.length c ∧ xs.length ≤ c ∧ IT.At w b o xs)
theorem IT.At.below {w w' : World} {b o : Nat} {xs : List IT} (h : IT.At w b o xs) (hb : Below w.heap.size w w') : IT.At w' b o xs :=
  ⟨Nat.lt_of_lt_of_le h.1 hb.size, fun j x hx => ⟨(hb.cell (p := ⟨b, o + j * 8, none⟩) h.1).trans ((h.2 j x hx).1), (hb.cell (p := ⟨b, o + j * 8 + 1, none⟩) h.1).trans ((h.2 j x hx).2.1), (hb.cell (p := ⟨b, o + j * 8 + 2, none⟩) h.1).trans ((h.2 j x hx).2.2.1), (hb.cell (p := ⟨b, o + j * 8 + 3, none⟩) h.1).trans ((h.2 j x hx).2.2.2.1), (hb.cell (p := ⟨b, o + j * 8 + 4, none⟩) h.1).trans ((h.2 j x hx).2.2.2.2.1), (hb.cell (p := ⟨b, o + j * 8 + 5, none⟩) h.1).trans ((h.2 j x hx).2.2.2.2.2.1), (hb.cell (p := ⟨b, o + j * 8 + 6, none⟩) h.1).trans ((h.2 j x hx).2.2.2.2.2.2.1), (hb.cell (p := ⟨b, o + j * 8 + 7, none⟩) h.1).trans ((h.2 j x hx).2.2.2.2.2.2.2)⟩⟩
theorem IT.Is.below {w w' : World} {v : Value} {xs : List IT} (h : IT.Is w v xs) (hb : Below w.heap.size w w') : IT.Is w' v xs := by
  rcases h with h | ⟨h0, b, o, c, hv, hc, hcell⟩
  · exact Or.inl h
  · exact Or.inr ⟨h0, b, o, c, hv, hc, hcell.below hb⟩
theorem IT.At.at {w : World} {b o : Nat} {xs : List IT} (h : IT.At w b o xs) (j : Nat) (hj : j < xs.length) : w.cell? ⟨b, o + j * 8, none⟩ = some (.string (xs[j]'hj).code) ∧ w.cell? ⟨b, o + j * 8 + 1, none⟩ = some (.string (xs[j]'hj).unt) ∧ w.cell? ⟨b, o + j * 8 + 2, none⟩ = some (.int .i64 (xs[j]'hj).kind) ∧ w.cell? ⟨b, o + j * 8 + 3, none⟩ = some (.int .i64 (xs[j]'hj).lead) ∧ w.cell? ⟨b, o + j * 8 + 4, none⟩ = some (.int .i64 (xs[j]'hj).rule) ∧ w.cell? ⟨b, o + j * 8 + 5, none⟩ = some (.int .i64 (xs[j]'hj).lsz) ∧ w.cell? ⟨b, o + j * 8 + 6, none⟩ = some (.int .i64 (xs[j]'hj).safe) ∧ w.cell? ⟨b, o + j * 8 + 7, none⟩ = some (.int .i64 (xs[j]'hj).scr) :=
  h.2 j _ (List.getElem?_eq_getElem hj)
theorem IT.Is.slice {w : World} {v : Value} {xs : List IT} (h : IT.Is w v xs) : ∃ (a : Option Addr) (c : Nat), v = .slice a xs.length c := by
  rcases h with ⟨rfl, a, c, rfl⟩ | ⟨h0, b, o, c, rfl, hc, hcell⟩
  · exact ⟨a, c, rfl⟩
  · exact ⟨_, c, rfl⟩
theorem IT.Is.some {w : World} {v : Value} {xs : List IT} (h : IT.Is w v xs) (h0 : 0 < xs.length) : ∃ b o c : Nat, v = .slice (some ⟨b, o, none⟩) xs.length c ∧ xs.length ≤ c ∧ IT.At w b o xs := by
  rcases h with ⟨rfl, _⟩ | ⟨_, h⟩
  · simp at h0
  · exact h
/-- The cells of a row. -/
def IT.enc (r : IT) : List Value := [.string r.code, .string r.unt, .int .i64 r.kind, .int .i64 r.lead, .int .i64 r.rule, .int .i64 r.lsz, .int .i64 r.safe, .int .i64 r.scr]
def IT.cells (xs : List IT) : List Value := xs.flatMap IT.enc
theorem IT.cells_cons (r : IT) (xs : List IT) : IT.cells (r :: xs) = .string r.code :: .string r.unt :: .int .i64 r.kind :: .int .i64 r.lead :: .int .i64 r.rule :: .int .i64 r.lsz :: .int .i64 r.safe :: .int .i64 r.scr :: IT.cells xs := rfl
theorem IT.cells_push (xs : List IT) (r : IT) : IT.cells xs ++ [.string r.code, .string r.unt, .int .i64 r.kind, .int .i64 r.lead, .int .i64 r.rule, .int .i64 r.lsz, .int .i64 r.safe, .int .i64 r.scr] = IT.cells (xs ++ [r]) := by simp [IT.cells, IT.enc]
theorem IT.cells_append (xs ys : List IT) : IT.cells xs ++ IT.cells ys = IT.cells (xs ++ ys) := by simp [IT.cells]
theorem IT.cells_length (xs : List IT) : (IT.cells xs).length = xs.length * 8 := by
  induction xs with
  | nil => rfl
  | cons r xs ih => rw [IT.cells_cons]; simp only [List.length_cons, ih]; omega
theorem IT.cells_at (xs : List IT) : ∀ (j : Nat) (x : IT), xs[j]? = some x → (IT.cells xs)[j * 8]? = some (.string x.code) ∧ (IT.cells xs)[j * 8 + 1]? = some (.string x.unt) ∧ (IT.cells xs)[j * 8 + 2]? = some (.int .i64 x.kind) ∧ (IT.cells xs)[j * 8 + 3]? = some (.int .i64 x.lead) ∧ (IT.cells xs)[j * 8 + 4]? = some (.int .i64 x.rule) ∧ (IT.cells xs)[j * 8 + 5]? = some (.int .i64 x.lsz) ∧ (IT.cells xs)[j * 8 + 6]? = some (.int .i64 x.safe) ∧ (IT.cells xs)[j * 8 + 7]? = some (.int .i64 x.scr) := by
  induction xs with
  | nil => intro j x h; simp at h
  | cons r xs ih =>
    intro j x h
    cases j with
    | zero =>
      simp at h
      subst h
      exact ⟨rfl, rfl, rfl, rfl, rfl, rfl, rfl, rfl⟩
    | succ k =>
      have h2 := ih k x (by simpa using h)
      rw [IT.cells_cons, show (k + 1) * 8 = k * 8 + 1 + 1 + 1 + 1 + 1 + 1 + 1 + 1 by omega, show k * 8 + 1 + 1 + 1 + 1 + 1 + 1 + 1 + 1 + 1 = (k * 8 + 1) + 1 + 1 + 1 + 1 + 1 + 1 + 1 + 1 by omega, show k * 8 + 1 + 1 + 1 + 1 + 1 + 1 + 1 + 1 + 2 = (k * 8 + 2) + 1 + 1 + 1 + 1 + 1 + 1 + 1 + 1 by omega, show k * 8 + 1 + 1 + 1 + 1 + 1 + 1 + 1 + 1 + 3 = (k * 8 + 3) + 1 + 1 + 1 + 1 + 1 + 1 + 1 + 1 by omega, show k * 8 + 1 + 1 + 1 + 1 + 1 + 1 + 1 + 1 + 4 = (k * 8 + 4) + 1 + 1 + 1 + 1 + 1 + 1 + 1 + 1 by omega, show k * 8 + 1 + 1 + 1 + 1 + 1 + 1 + 1 + 1 + 5 = (k * 8 + 5) + 1 + 1 + 1 + 1 + 1 + 1 + 1 + 1 by omega, show k * 8 + 1 + 1 + 1 + 1 + 1 + 1 + 1 + 1 + 6 = (k * 8 + 6) + 1 + 1 + 1 + 1 + 1 + 1 + 1 + 1 by omega, show k * 8 + 1 + 1 + 1 + 1 + 1 + 1 + 1 + 1 + 7 = (k * 8 + 7) + 1 + 1 + 1 + 1 + 1 + 1 + 1 + 1 by omega]
      simp only [List.getElem?_cons_succ]
      exact h2
theorem IT.is_of_row {w : World} {base e : Nat} {v : Value} {xs : List IT} (h : w.ownsRow base e 8 v xs.length (IT.cells xs)) : IT.Is w v xs := by
  rcases h.2 with ⟨rfl, hx⟩ | ⟨g, cap, cur, rfl, hb, hg, hnc, hcm, hcs, htake⟩
  · exact Or.inl ⟨List.eq_nil_of_length_eq_zero hx, _, _, rfl⟩
  · by_cases h0 : xs = []
    · subst h0
      exact Or.inl ⟨rfl, _, _, rfl⟩
    · refine Or.inr ⟨h0, g, 0, cap, rfl, hnc, (h.lt g rfl).2, fun j x hx => ?_⟩
      have hj : j < xs.length := (List.getElem?_eq_some_iff.1 hx).1
      have h4 := IT.cells_at xs j x hx
      rw [Nat.zero_add, h.cellAt (j * 8) (by omega), h.cellAt (j * 8 + 1) (by omega), h.cellAt (j * 8 + 2) (by omega), h.cellAt (j * 8 + 3) (by omega), h.cellAt (j * 8 + 4) (by omega), h.cellAt (j * 8 + 5) (by omega), h.cellAt (j * 8 + 6) (by omega), h.cellAt (j * 8 + 7) (by omega)]
      exact h4
end Go.Proofs.Ytmoeomeilbinhaa
