/-
  Slices of rules between units, said of a world. No program is named here.
-/
import Derived.Test.YtaomjggamamckaaStrs
import Derived.WalkKit
import Derived.ProofKit
import Derived.ChangeSlices
import Derived.Deep.DeepHandedRow
import Derived.Laws.Rows
namespace Go.Proofs.Ytaomjggamamckaa
open Go.RowKit Go.ChangeShapes

/-- A rule between units. -/
structure UR where
  src : ByteArray
  dst : ByteArray
  num : Int
  den : Int
instance : Inhabited UR := ⟨⟨ByteArray.empty, ByteArray.empty, 0, 0⟩⟩
/-- A rule as a value. -/
def urV (r : UR) : Value := .agg #[.string r.src, .string r.dst, .int .i64 r.num, .int .i64 r.den]

/-- The cells of a slice of rules: at block b from o on. -/
def CellsR (w : World) (b o : Nat) (rs : List UR) : Prop :=
  b < w.heap.size ∧ ∀ (j : Nat) (x : UR), rs[j]? = some x → w.cell? ⟨b, o + j * 4, none⟩ = some (.string x.src) ∧ w.cell? ⟨b, o + j * 4 + 1, none⟩ = some (.string x.dst) ∧
    w.cell? ⟨b, o + j * 4 + 2, none⟩ = some (.int .i64 x.num) ∧ w.cell? ⟨b, o + j * 4 + 3, none⟩ = some (.int .i64 x.den)

/-- In the world w the value v is a slice that reads as these rules. -/
def Rules (w : World) (v : Value) (rs : List UR) : Prop :=
  (rs = [] ∧ ∃ (a : Option Addr) (c : Nat), v = .slice a 0 c) ∨
  (rs ≠ [] ∧ ∃ b o c : Nat, v = .slice (some ⟨b, o, none⟩) rs.length c ∧ rs.length ≤ c ∧ CellsR w b o rs)

theorem CellsR.below {w w' : World} {b o : Nat} {rs : List UR} (h : CellsR w b o rs) (hb : Below w.heap.size w w') : CellsR w' b o rs :=
  ⟨Nat.lt_of_lt_of_le h.1 hb.size, fun j x hx => ⟨(hb.cell (p := ⟨b, o + j * 4, none⟩) h.1).trans (h.2 j x hx).1, (hb.cell (p := ⟨b, o + j * 4 + 1, none⟩) h.1).trans (h.2 j x hx).2.1,
    (hb.cell (p := ⟨b, o + j * 4 + 2, none⟩) h.1).trans (h.2 j x hx).2.2.1, (hb.cell (p := ⟨b, o + j * 4 + 3, none⟩) h.1).trans (h.2 j x hx).2.2.2⟩⟩
theorem Rules.below {w w' : World} {v : Value} {rs : List UR} (h : Rules w v rs) (hb : Below w.heap.size w w') : Rules w' v rs := by
  rcases h with h | ⟨h0, b, o, c, hv, hc, hcell⟩
  · exact Or.inl h
  · exact Or.inr ⟨h0, b, o, c, hv, hc, hcell.below hb⟩
theorem CellsR.at {w : World} {b o : Nat} {rs : List UR} (h : CellsR w b o rs) (k : Nat) (hk : k < rs.length) : w.cell? ⟨b, o + k * 4, none⟩ = some (.string (rs[k]'hk).src) ∧ w.cell? ⟨b, o + k * 4 + 1, none⟩ = some (.string (rs[k]'hk).dst) ∧
    w.cell? ⟨b, o + k * 4 + 2, none⟩ = some (.int .i64 (rs[k]'hk).num) ∧ w.cell? ⟨b, o + k * 4 + 3, none⟩ = some (.int .i64 (rs[k]'hk).den) :=
  h.2 k _ (List.getElem?_eq_getElem hk)
theorem Rules.slice {w : World} {v : Value} {rs : List UR} (h : Rules w v rs) : ∃ (a : Option Addr) (c : Nat), v = .slice a rs.length c := by
  rcases h with ⟨rfl, a, c, rfl⟩ | ⟨h0, b, o, c, rfl, hc, hcell⟩
  · exact ⟨a, c, rfl⟩
  · exact ⟨_, c, rfl⟩
theorem Rules.some {w : World} {v : Value} {rs : List UR} (h : Rules w v rs) (h0 : 0 < rs.length) : ∃ b o c : Nat, v = .slice (some ⟨b, o, none⟩) rs.length c ∧ rs.length ≤ c ∧ CellsR w b o rs := by
  rcases h with ⟨rfl, _⟩ | ⟨_, h⟩
  · simp at h0
  · exact h
theorem Strs.slice {w : World} {v : Value} {ns : List ByteArray} (h : Strs w v ns) : ∃ (a : Option Addr) (c : Nat), v = .slice a ns.length c := by
  rcases h with ⟨rfl, a, c, rfl⟩ | ⟨_, b, o, c, rfl, _⟩
  · exact ⟨a, c, rfl⟩
  · exact ⟨_, c, rfl⟩
theorem Strs.some {w : World} {v : Value} {ns : List ByteArray} (h : Strs w v ns) (h0 : 0 < ns.length) : ∃ b o c : Nat, v = .slice (some ⟨b, o, none⟩) ns.length c ∧ ns.length ≤ c ∧ CellsS w b o ns := by
  rcases h with ⟨rfl, _⟩ | ⟨_, h⟩
  · simp at h0
  · exact h
end Go.Proofs.Ytaomjggamamckaa
