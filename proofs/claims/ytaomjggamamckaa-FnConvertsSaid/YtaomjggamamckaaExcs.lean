/-
  Slices of pairs of numbers (exceptions of a calendar), said of a world. No program is named here.
-/
import Derived.Test.YtaomjggamamckaaInts
import Derived.WalkKit
import Derived.ProofKit
import Derived.ChangeSlices
import Derived.Deep.DeepHandedRow
import Derived.Laws.Rows
namespace Go.Proofs.Ytaomjggamamckaa
open Go.RowKit Go.ChangeShapes

/-- The cells of a slice of pairs: at block b from o on. -/
def CellsE (w : World) (b o : Nat) (es : List (Int × Int)) : Prop :=
  b < w.heap.size ∧ ∀ (j : Nat) (x : Int × Int), es[j]? = some x → w.cell? ⟨b, o + j * 2, none⟩ = some (.int .i64 x.1) ∧ w.cell? ⟨b, o + j * 2 + 1, none⟩ = some (.int .i64 x.2)

/-- In the world w the value v is a slice that reads as these pairs. -/
def Excs (w : World) (v : Value) (es : List (Int × Int)) : Prop :=
  (es = [] ∧ ∃ (a : Option Addr) (c : Nat), v = .slice a 0 c) ∨
  (es ≠ [] ∧ ∃ b o c : Nat, v = .slice (some ⟨b, o, none⟩) es.length c ∧ es.length ≤ c ∧ CellsE w b o es)

theorem CellsE.below {w w' : World} {b o : Nat} {es : List (Int × Int)} (h : CellsE w b o es) (hb : Below w.heap.size w w') : CellsE w' b o es :=
  ⟨Nat.lt_of_lt_of_le h.1 hb.size, fun j x hx => ⟨(hb.cell (p := ⟨b, o + j * 2, none⟩) h.1).trans (h.2 j x hx).1, (hb.cell (p := ⟨b, o + j * 2 + 1, none⟩) h.1).trans (h.2 j x hx).2⟩⟩
theorem Excs.below {w w' : World} {v : Value} {es : List (Int × Int)} (h : Excs w v es) (hb : Below w.heap.size w w') : Excs w' v es := by
  rcases h with h | ⟨h0, b, o, c, hv, hc, hcell⟩
  · exact Or.inl h
  · exact Or.inr ⟨h0, b, o, c, hv, hc, hcell.below hb⟩
theorem CellsE.fst {w : World} {b o : Nat} {es : List (Int × Int)} (h : CellsE w b o es) (k : Nat) (hk : k < es.length) : w.cell? ⟨b, o + k * 2, none⟩ = some (.int .i64 (es[k]'hk).1) :=
  (h.2 k _ (List.getElem?_eq_getElem hk)).1
theorem CellsE.snd {w : World} {b o : Nat} {es : List (Int × Int)} (h : CellsE w b o es) (k : Nat) (hk : k < es.length) : w.cell? ⟨b, o + k * 2 + 1, none⟩ = some (.int .i64 (es[k]'hk).2) :=
  (h.2 k _ (List.getElem?_eq_getElem hk)).2
theorem Excs.slice {w : World} {v : Value} {es : List (Int × Int)} (h : Excs w v es) : ∃ (a : Option Addr) (c : Nat), v = .slice a es.length c := by
  rcases h with ⟨rfl, a, c, rfl⟩ | ⟨h0, b, o, c, rfl, hc, hcell⟩
  · exact ⟨a, c, rfl⟩
  · exact ⟨_, c, rfl⟩
theorem Excs.some {w : World} {v : Value} {es : List (Int × Int)} (h : Excs w v es) (h0 : 0 < es.length) : ∃ b o c : Nat, v = .slice (some ⟨b, o, none⟩) es.length c ∧ es.length ≤ c ∧ CellsE w b o es := by
  rcases h with ⟨rfl, _⟩ | ⟨_, h⟩
  · simp at h0
  · exact h

/-- A calendar. -/
def Cal (w : World) (v : Value) (ws : List Int) (es : List (Int × Int)) : Prop := ∃ vw vx, v = .agg #[vw, vx] ∧ Ints w vw ws ∧ Excs w vx es
theorem Cal.below {w w' : World} {v : Value} {ws : List Int} {es : List (Int × Int)} (h : Cal w v ws es) (hb : Below w.heap.size w w') : Cal w' v ws es := by
  obtain ⟨vw, vx, hv, hw, hx⟩ := h
  exact ⟨vw, vx, hv, hw.below hb, hx.below hb⟩
end Go.Proofs.Ytaomjggamamckaa
