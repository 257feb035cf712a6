/-
  Slices of strings, said of a world: what a slice value reads as, and what keeps it. No program is named here.
-/
import Derived.WalkKit
import Derived.ProofKit
import Derived.SliceStrings
namespace Go.Proofs.Ytfcgdhedaefonaa
open Go.RowKit Go.ChangeShapes

/-- The cells of a slice that is not empty: at block b from o on lie the strings ss; the block is one of w's. -/
def CellsS (w : World) (b o : Nat) (ss : List ByteArray) : Prop := b < w.heap.size ∧ ∀ (j : Nat) (x : ByteArray), ss[j]? = some x → w.cell? ⟨b, o + j, none⟩ = some (.string x)

/-- In the world w the value v is a slice that reads as the strings ss. -/
def Strs (w : World) (v : Value) (ss : List ByteArray) : Prop :=
  (ss = [] ∧ ∃ (a : Option Addr) (c : Nat), v = .slice a 0 c) ∨
  (ss ≠ [] ∧ ∃ b o c : Nat, v = .slice (some ⟨b, o, none⟩) ss.length c ∧ ss.length ≤ c ∧ CellsS w b o ss)

theorem CellsS.below {w w' : World} {b o : Nat} {ss : List ByteArray} (h : CellsS w b o ss) (hb : Below w.heap.size w w') : CellsS w' b o ss :=
  ⟨Nat.lt_of_lt_of_le h.1 hb.size, fun j x hx => (hb.cell (p := ⟨b, o + j, none⟩) h.1).trans (h.2 j x hx)⟩

theorem Strs.below {w w' : World} {v : Value} {ss : List ByteArray} (h : Strs w v ss) (hb : Below w.heap.size w w') : Strs w' v ss := by
  rcases h with h | ⟨h0, b, o, c, hv, hc, hcell⟩
  · exact Or.inl h
  · exact Or.inr ⟨h0, b, o, c, hv, hc, hcell.below hb⟩

theorem CellsS.drew {w : World} {b o : Nat} {ss : List ByteArray} (h : CellsS w b o ss) : CellsS w.drew b o ss := h

/-- The cell at k, in the walk's spelling. -/
theorem CellsS.at {w : World} {b o : Nat} {ss : List ByteArray} (h : CellsS w b o ss) (k : Nat) (hk : k < ss.length) : w.cell? ⟨b, o + k, none⟩ = some (.string (ss[k]'hk)) :=
  h.2 k _ (List.getElem?_eq_getElem hk)

/-- How many bytes together. -/
def bytesOf (ss : List ByteArray) : Nat := (ss.map (·.size)).sum

theorem bytesOf_succ {ss : List ByteArray} {k : Nat} (hk : k < ss.length) : bytesOf (ss.take (k + 1)) = bytesOf (ss.take k) + (ss[k]'hk).size := by
  unfold bytesOf
  rw [List.take_succ_eq_append_getElem hk, List.map_append, List.sum_append]
  simp

theorem bytesOf_all {ss : List ByteArray} {k : Nat} (hk : ss.length ≤ k) : bytesOf (ss.take k) = bytesOf ss := by rw [List.take_of_length_le hk]

theorem cell_block {w : World} {a : Addr} {n : Nat} {v : Value} (h : w.cell? (a.add n) = some v) : a.block < w.heap.size := by
  by_cases hb : a.block < w.heap.size
  · exact hb
  · have e : (a.add n).block = a.block := by unfold Addr.add; split <;> rfl
    have : w.heap[(a.add n).block]? = none := by rw [e]; exact Array.getElem?_eq_none (by omega)
    simp [World.cell?, this] at h

/-- What 'open_strings' gives, as Strs. -/
theorem strs_open {w : World} {a : Addr} {len cap : Nat} {ss : List ByteArray} (hl : len ≤ cap) (hz : ss.length = cap)
    (hc : ∀ i, i < ss.length → w.cell? (a.add i) = some (.string (ss.getD i ByteArray.empty))) (hlt : ∀ i, i < ss.length → a.block < w.heap.size) :
    Strs w (.slice (some a) len cap) (ss.take len) := by
  by_cases h0 : len = 0
  · subst h0
    exact Or.inl ⟨by simp, _, _, rfl⟩
  · have hp : 0 < ss.length := by omega
    obtain ⟨b, off, spot⟩ := a
    have hspot : spot = none := by simpa [Addr.add] using World.cell?_spot (hc 0 hp)
    subst hspot
    have hlen : (ss.take len).length = len := by rw [List.length_take]; omega
    refine Or.inr ⟨by intro h; rw [h] at hlen; simp at hlen; omega, b, off, cap, by rw [hlen], by omega, hlt 0 hp, ?_⟩
    intro j x hx
    have hj : j < len := by
      have := (List.getElem?_eq_some_iff.1 hx).1
      omega
    have := hc j (by omega)
    rw [Addr.add_lit] at this
    rw [this, List.getD]
    rw [List.getElem?_take_of_lt hj] at hx
    rw [hx]
    rfl
end Go.Proofs.Ytfcgdhedaefonaa
