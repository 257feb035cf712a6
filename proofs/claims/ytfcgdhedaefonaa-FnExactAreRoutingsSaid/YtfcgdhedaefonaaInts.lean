/-
  Slices of numbers, said of a world: what a slice value reads as, and what keeps it. No program is named here.
-/
import Derived.WalkKit
import Derived.ProofKit
import Derived.ChangeSlices
import Derived.Deep.DeepHandedRow
import Derived.Laws.Rows
namespace Go.Proofs.Ytfcgdhedaefonaa
open Go.RowKit Go.ChangeShapes

/-- The cells of a slice that is not empty: at block b from o on lie the numbers xs; the block is one of w's. -/
def CellsI (w : World) (b o : Nat) (xs : List Int) : Prop := b < w.heap.size ∧ ∀ (j : Nat) (x : Int), xs[j]? = some x → w.cell? ⟨b, o + j, none⟩ = some (.int .i64 x)

/-- In the world w the value v is a slice that reads as the numbers xs. -/
def Ints (w : World) (v : Value) (xs : List Int) : Prop :=
  (xs = [] ∧ ∃ (a : Option Addr) (c : Nat), v = .slice a 0 c) ∨
  (xs ≠ [] ∧ ∃ b o c : Nat, v = .slice (some ⟨b, o, none⟩) xs.length c ∧ xs.length ≤ c ∧ CellsI w b o xs)

theorem CellsI.below {w w' : World} {b o : Nat} {xs : List Int} (h : CellsI w b o xs) (hb : Below w.heap.size w w') : CellsI w' b o xs :=
  ⟨Nat.lt_of_lt_of_le h.1 hb.size, fun j x hx => (hb.cell (p := ⟨b, o + j, none⟩) h.1).trans (h.2 j x hx)⟩

theorem Ints.below {w w' : World} {v : Value} {xs : List Int} (h : Ints w v xs) (hb : Below w.heap.size w w') : Ints w' v xs := by
  rcases h with h | ⟨h0, b, o, c, hv, hc, hcell⟩
  · exact Or.inl h
  · exact Or.inr ⟨h0, b, o, c, hv, hc, hcell.below hb⟩

theorem CellsI.drew {w : World} {b o : Nat} {xs : List Int} (h : CellsI w b o xs) : CellsI w.drew b o xs := h

/-- The cell at k, in the walk's spelling. -/
theorem CellsI.at {w : World} {b o : Nat} {xs : List Int} (h : CellsI w b o xs) (k : Nat) (hk : k < xs.length) : w.cell? ⟨b, o + k, none⟩ = some (.int .i64 (xs[k]'hk)) :=
  h.2 k _ (List.getElem?_eq_getElem hk)

theorem cell_blockI {w : World} {a : Addr} {n : Nat} {v : Value} (h : w.cell? (a.add n) = some v) : a.block < w.heap.size := by
  by_cases hb : a.block < w.heap.size
  · exact hb
  · have e : (a.add n).block = a.block := by unfold Addr.add; split <;> rfl
    have : w.heap[(a.add n).block]? = none := by rw [e]; exact Array.getElem?_eq_none (by omega)
    simp [World.cell?, this] at h

/-- What 'open_ints' gives, as Ints. -/
theorem ints_open0 {w : World} {a : Addr} {len cap : Nat} {xs : List Int} (hl : len ≤ cap) (hz : xs.length = cap)
    (hc : ∀ i, i < xs.length → w.cell? (a.add i) = some (.int .i64 (xs.getD i 0))) (hlt : ∀ i, i < xs.length → a.block < w.heap.size) :
    Ints w (.slice (some a) len cap) (xs.take len) := by
  by_cases h0 : len = 0
  · subst h0
    exact Or.inl ⟨by simp, _, _, rfl⟩
  · have hp : 0 < xs.length := by omega
    obtain ⟨b, off, spot⟩ := a
    have hspot : spot = none := by simpa [Addr.add] using World.cell?_spot (hc 0 hp)
    subst hspot
    have hlen : (xs.take len).length = len := by rw [List.length_take]; omega
    refine Or.inr ⟨by intro h; rw [h] at hlen; simp at hlen; omega, b, off, cap, by rw [hlen], by omega, hlt 0 hp, ?_⟩
    intro j x hx
    have hj : j < len := by
      have := (List.getElem?_eq_some_iff.1 hx).1
      omega
    have := hc j (by omega)
    rw [Addr.add_lit] at this
    rw [this, List.getD]
    rw [List.getElem?_take_of_lt hj] at hx
    rw [hx]
    rfl

/-- An owned row of numbers reads as these numbers. -/
theorem ints_of_row {w : World} {base e : Nat} {v : Value} {n : Nat} {xs : List Int} (hn : n = xs.length) (h : w.ownsRow base e 1 v n (xs.map (Value.int .i64))) : Ints w v xs := by
  subst hn
  rcases h.2 with ⟨rfl, hx⟩ | ⟨g, cap, cur, rfl, hb, hg, hnc, hcm, hcs, htake⟩
  · exact Or.inl ⟨List.eq_nil_of_length_eq_zero hx, _, _, rfl⟩
  · by_cases h0 : xs = []
    · subst h0
      exact Or.inl ⟨rfl, _, _, rfl⟩
    · refine Or.inr ⟨h0, g, 0, cap, rfl, hnc, (h.lt g rfl).2, fun j x hx => ?_⟩
      have hj : j < xs.length := (List.getElem?_eq_some_iff.1 hx).1
      rw [Nat.zero_add, h.cellAt j (by omega), List.getElem?_map, hx]
      rfl
theorem ints_none (w : World) (a : Option Addr) (c : Nat) : Ints w (.slice a 0 c) [] := Or.inl ⟨rfl, _, _, rfl⟩
/-- Always a slice of that length. -/
theorem Ints.slice {w : World} {v : Value} {xs : List Int} (h : Ints w v xs) : ∃ (a : Option Addr) (c : Nat), v = .slice a xs.length c := by
  rcases h with ⟨rfl, a, c, rfl⟩ | ⟨h0, b, o, c, rfl, hc, hcell⟩
  · exact ⟨a, c, rfl⟩
  · exact ⟨_, c, rfl⟩
theorem grown_of_below {w w' : World} (h : Below w.heap.size w w') (row : Option Nat) : w.grownBy w' row := ⟨h.os, h.tape, h.output, h.size, fun k hk _ => h.block k hk⟩
theorem kept_below {w w' : World} {base e : Nat} {v : Value} {n : Nat} {xs : List Value} (h : w.ownsRow base e 1 v n xs) (hb : Below w.heap.size w w') : w'.ownsRow base e 1 v n xs :=
  h.kept (grown_of_below hb none) (by
    cases hv : v.ownBlock
    · exact Or.inl rfl
    · exact Or.inr (by simp))
/-- What is owned stays while a row apart from it changes. -/
theorem own_apart {w w' : World} {base e : Nat} {v u : Value} {n : Nat} {xs : List Value} (h : w.ownsRow base e 1 v n xs) (hg : w.grownBy w' u.ownBlock) (ha : ∀ j, v.ownBlock = some j → u.ownBlock = some j → False) : w'.ownsRow base e 1 v n xs :=
  h.kept hg (by
    cases hv : v.ownBlock with
    | none => exact Or.inl rfl
    | some j => exact Or.inr (fun e => ha j hv e.symm))
end Go.Proofs.Ytfcgdhedaefonaa
