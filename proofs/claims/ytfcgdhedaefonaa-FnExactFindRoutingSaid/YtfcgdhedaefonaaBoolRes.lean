/-
  A truth is returned. No program is named here.
-/
import Derived.WalkKit
import Derived.Laws.Rows
namespace Go.Proofs.Ytfcgdhedaefonaa
open Go.RowKit

def BoolRes (y : Bool) (w : World) (e : Ending) (w' : World) : Prop := e = .returned (.bool y) ∧ Below w.heap.size w w'
/-- A place is returned, or -1. -/
def IdxRes (y : Bool) (w : World) (e : Ending) (w' : World) : Prop := ∃ z : Int, e = .returned (.int .i64 z) ∧ (y = true → 0 ≤ z) ∧ (y = false → z < 0) ∧ Below w.heap.size w w'
end Go.Proofs.Ytfcgdhedaefonaa
